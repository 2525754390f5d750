/- What is proved: InsnAll returns true for any instructions, which stay as they were (its own card). Conditions: none beyond the row's own; the two laid tables are tied to the program's text. -/
import Derived.Test.YthlmdcokiamfkaaDoorOpn
import Derived.Test.YthlmdcokiamfkaaDoorR2E
import Derived.Test.YthlmdcokiamfkaaDoorCards
import Derived.Test.YthlmdcokiamfkaaDoorTie
import Derived.SevenTiedAt
import Derived.Carry
namespace Go.Proofs.YthlmdcokiamfkaaDoor.insnAll
open Go.ChangeShapes Go.WideShapes Go.ChangeAt Go.RowKit
set_option linter.unusedVariables false
/-- The cells of instructions, one behind the other. -/
def cellsL (l : List In) : List Value := l.flatMap fun x => [.int .u8 x.op, .int .u8 x.rd, .int .u8 x.rs1, .int .u8 x.rs2, .int .i64 x.imm]
theorem cellsL_length (l : List In) : (cellsL l).length = l.length * 5 := by
  induction l with
  | nil => rfl
  | cons x l ih => rw [cellsL, List.flatMap_cons, List.length_append]; rw [cellsL] at ih; rw [ih]; simp only [List.length_cons, List.length_nil]; omega
theorem cellsL_one (l : List In) : ∀ u ∈ cellsL l, u.oneCell' = true := by
  intro u hu
  simp only [cellsL, List.mem_flatMap, List.mem_cons, List.not_mem_nil, or_false] at hu
  obtain ⟨x, _, h⟩ := hu
  rcases h with rfl | rfl | rfl | rfl | rfl <;> rfl
theorem cellsL_of {w : World} {b : Nat} : ∀ (l : List In) (off : Nat), (∀ i (h : i < l.length), inAt w b (off + i * 5) l[i]) → ∀ j u, (cellsL l)[j]? = some u → w.cell? ⟨b, off + j, none⟩ = some u := by
  intro l
  induction l with
  | nil => intro off _ j u h; simp [cellsL] at h
  | cons x l ih =>
    intro off hc j u h
    rw [cellsL, List.flatMap_cons] at h
    obtain ⟨g0, g1, g2, g3, g4⟩ := hc 0 (by simp)
    by_cases hj : j < 5
    · rw [List.getElem?_append_left (by simpa using hj)] at h
      have hj5 : j = 0 ∨ j = 1 ∨ j = 2 ∨ j = 3 ∨ j = 4 := by omega
      rcases hj5 with rfl | rfl | rfl | rfl | rfl
      · simp at h; subst h; simpa using g0
      · simp at h; subst h; simpa using g1
      · simp at h; subst h; simpa using g2
      · simp at h; subst h; simpa using g3
      · simp at h; subst h; simpa using g4
    · rw [List.getElem?_append_right (by simp; omega)] at h
      have := ih (off + 5) (fun i hi => by have := hc (i + 1) (by simp; omega); simp only [List.getElem_cons_succ] at this; rw [show off + 5 + i * 5 = off + (i + 1) * 5 by omega]; exact this) (j - 5) u (by simpa [cellsL] using h)
      rw [show off + 5 + (j - 5) = off + j by omega] at this
      exact this
theorem cellsL_at : ∀ (l : List In) (i : Nat) (h : i < l.length), (cellsL l)[i * 5]? = some (.int .u8 l[i].op) ∧ (cellsL l)[i * 5 + 1]? = some (.int .u8 l[i].rd) ∧ (cellsL l)[i * 5 + 2]? = some (.int .u8 l[i].rs1) ∧ (cellsL l)[i * 5 + 3]? = some (.int .u8 l[i].rs2) ∧ (cellsL l)[i * 5 + 4]? = some (.int .i64 l[i].imm) := by
  intro l
  induction l with
  | nil => intro i h; simp at h
  | cons x l ih =>
    intro i h
    cases i with
    | zero => simp [cellsL]
    | succ i =>
      have e : ∀ r, (cellsL (x :: l))[(i + 1) * 5 + r]? = (cellsL l)[i * 5 + r]? := fun r => by
        rw [cellsL, List.flatMap_cons, List.getElem?_append_right (by simp; omega)]
        congr 1
        simp
        omega
      obtain ⟨a0, a1, a2, a3, a4⟩ := ih i (by simpa using h)
      refine ⟨(e 0).trans a0, (e 1).trans a1, (e 2).trans a2, (e 3).trans a3, (e 4).trans a4⟩
theorem inAt_own {w : World} {base g n cap : Nat} {l : List In} (hl : l.length = n) (h : w.ownsRow base 23 5 (.slice (some ⟨g, 0, none⟩) n cap) n (cellsL l)) (i : Nat) (hi : i < l.length) : inAt w g (i * 5) l[i] := by
  obtain ⟨a0, a1, a2, a3, a4⟩ := cellsL_at l i hi
  exact ⟨(h.cellAt (i * 5) (by omega)).trans a0, (h.cellAt (i * 5 + 1) (by omega)).trans a1, (h.cellAt (i * 5 + 2) (by omega)).trans a2, (h.cellAt (i * 5 + 3) (by omega)).trans a3, (h.cellAt (i * 5 + 4) (by omega)).trans a4⟩
theorem infoI : (Tryd.prog.info? 23).map (fun i => (i.zero, i.size, i.bytes)) = some (some (.agg #[.int .u8 0, .int .u8 0, .int .u8 0, .int .u8 0, .int .i64 0]), 5, 16) := by kernel_rfl
theorem first_bad (l : List In) : (∀ x ∈ l, x.ok = true) ∨ ∃ m, ∃ h : m < l.length, l[m].ok = false ∧ ∀ i (hi : i < m), (l[i]'(by omega)).ok = true := by
  induction l with
  | nil => exact Or.inl (by simp)
  | cons x l ih =>
    cases hx : x.ok
    · exact Or.inr ⟨0, by simp, by simpa using hx, by omega⟩
    · rcases ih with h | ⟨m, hm, hb, hk⟩
      · exact Or.inl (by intro y hy; rcases List.mem_cons.1 hy with rfl | hy; exact hx; exact h y hy)
      · refine Or.inr ⟨m + 1, by simp; omega, by simpa using hb, fun i hi => ?_⟩
        cases i with
        | zero => simpa using hx
        | succ i => simpa using hk i (by omega)
theorem walk_big (v : Value) (n cap : Nat) (a : Addr) (hv : v = .slice (some a) n cap) (hn : 300 < n) (hm : n ≤ 9223372036854775807) (w : World) (h : Tb w) :
    Calls Tryd.prog 4 #[v] w fun e w' => e = .returned (.bool true) ∧ Below w.heap.size w w' := by
  subst hv
  go_enter Tryd.func4, Tryd.ntmps4
  go_wp2_with (go_at_call 10; (with_reducible refine (alive_any _ h).mono ?_); rintro e w3 ⟨rfl, hb3⟩)
  go_ret
  exact ⟨rfl, hb3⟩
set_option maxHeartbeats 2000000 in
set_option maxRecDepth 100000 in
theorem walk_yes (l : List In) (b off cap : Nat) (hl : l.length ≤ 300) (hl0 : 0 < l.length) (hwf : ∀ x ∈ l, x.wf) (hok : ∀ x ∈ l, x.ok = true) (w : World) (h : Tb w)
    (hc : ∀ i (h : i < l.length), inAt w b (off + i * 5) l[i]) (hb : b < w.heap.size) :
    Calls Tryd.prog 4 #[.slice (some ⟨b, off, none⟩) l.length cap] w fun e w' => e = .returned (.bool true) ∧ Below w.heap.size w w' := by
  obtain ⟨i0, hi, hz0, hz1, hz2⟩ := info_parts infoI
  have hnews : ∀ j u, (cellsL l)[j]? = some u → w.cell? ((⟨b, off, none⟩ : Addr).add j) = some u := fun j u hu => by
    have hx := cellsL_of l off hc j u hu
    by_cases e : j = 0
    · subst e; simpa [Addr.add] using hx
    · simpa [Addr.add, e] using hx
  have HN := Lib.hid hnews
  have hl1 : ¬ (300 : Int) < (l.length : Int) := by omega
  have HC := Lib.hid hc
  clear hnews hc
  go_enter Tryd.func4, Tryd.ntmps4
  go_wp2_with (at_builtin; refine wpList_append_own _ rfl _ _ 30 rfl w.heap.size 23 i0 _ 5 16 Tryd.underlying30 hi hz0 hz1 hz2 rfl (by decide) _ 0 [] rfl (World.ownsRow_nil _ _ _ _) ⟨b, off, none⟩ l.length cap (cellsL l) rfl (cellsL_length l) HN.out (cellsL_one l) ?c1 ?c2 (Nat.le_refl _) ?_)
  case c1 => unfold maxLen; omega
  case c2 => omega
  intro v' w1 hown hgrow _
  have hown : w1.ownsRow w.heap.size 23 5 v' l.length (cellsL l) := by simpa using hown
  obtain ⟨g, cp, rfl⟩ := Joins.ownsRow_form hown hl0
  have hB1 : Below w.heap.size w w1 := (Below.refl _ _).grown hgrow (Nat.le_refl _) (fun j hj => by cases hj)
  have HO := Lib.hid (fun i hi => inAt_own rfl hown i hi)
  have h1 := h.of hB1
  have hg1 : g < w1.heap.size := (hown.lt g rfl).2
  have hw1 := hB1.size
  clear hown hgrow
  have kA := all_yes l g cp (by omega) hwf hok w1 (fun i hi => HO.out i hi) hg1 h1.1 h1.2
  have kR := fun (x : World) (hx : Below w1.heap.size w1 x) => rall_yes l b off cap (by omega) hwf hok x (fun i hi => (HC.out i hi).of (hB1.trans (hx.mono hw1)) hb) (Nat.lt_of_lt_of_le hb (Nat.le_trans hw1 hx.size))
  go_wp2_with (first | (go_at_call 11; ((with_reducible refine kA.mono ?_); (rintro e w2 ⟨rfl, hb2⟩); have kR2 := kR w2 hb2)) | (go_at_call 12; ((with_reducible refine kR2.mono ?_); (rintro e w3 ⟨rfl, hb3⟩))))
  have hB2 : Below w1.heap.size w1 w3 := hb2.trans (hb3.mono hb2.size)
  have h3 := h1.of hB2
  clear kA kR
  go_loopw [8] (fun i wr => ∃ k : Nat, k ≤ l.length ∧ i = .int .i64 k ∧ Below w1.heap.size w1 wr) (fun i _ => l.length - (intOf i).toNat)
  case atStart => exact ⟨0, Nat.zero_le _, rfl, hB2⟩
  case round =>
    obtain ⟨k, hk, rfl, hB⟩ := hrel
    by_cases hlt : k < l.length
    · obtain ⟨g0, g1, g2, g3, g4⟩ := (HC.out k hlt).of (hB1.trans (hB.mono hw1)) hb
      obtain ⟨f0, f1, f2, f3, f4⟩ := (HO.out k hlt).of hB hg1
      have n0 : (0 : Int) ≤ (k : Int) := by omega
      have n1 : (k : Int) < (l.length : Int) := by omega
      go_wp2
      go_quiet (fail)
      go_wp2
      go_roundw
      case rel => exact ⟨k + 1, by omega, by go_num, bdN hB _⟩
      case measure => first | (simp [intOf]; done) | (simp [intOf]; omega)
    · have hT := h1.of hB
      go_wp2_with (go_at_call 10; (with_reducible refine (alive_any _ hT).mono ?_); rintro e w4 ⟨rfl, hb4⟩)
      go_ret
      exact ⟨rfl, hB1.trans ((hB.mono hw1).trans (hb4.mono (Nat.le_trans hw1 hB.size)))⟩
set_option maxHeartbeats 2000000 in
set_option maxRecDepth 100000 in
theorem walk_no (l : List In) (b off cap : Nat) (m : Nat) (hm : m < l.length) (hbad : l[m].ok = false) (hl : l.length ≤ 300) (hl0 : 0 < l.length) (hwf : ∀ x ∈ l, x.wf) (hok : ∀ i (h : i < m), (l[i]'(by omega)).ok = true) (w : World) (h : Tb w)
    (hc : ∀ i (h : i < l.length), inAt w b (off + i * 5) l[i]) (hb : b < w.heap.size) :
    Calls Tryd.prog 4 #[.slice (some ⟨b, off, none⟩) l.length cap] w fun e w' => e = .returned (.bool true) ∧ Below w.heap.size w w' := by
  obtain ⟨i0, hi, hz0, hz1, hz2⟩ := info_parts infoI
  have hnews : ∀ j u, (cellsL l)[j]? = some u → w.cell? ((⟨b, off, none⟩ : Addr).add j) = some u := fun j u hu => by
    have hx := cellsL_of l off hc j u hu
    by_cases e : j = 0
    · subst e; simpa [Addr.add] using hx
    · simpa [Addr.add, e] using hx
  have HN := Lib.hid hnews
  have hl1 : ¬ (300 : Int) < (l.length : Int) := by omega
  have HC := Lib.hid hc
  clear hnews hc
  go_enter Tryd.func4, Tryd.ntmps4
  go_wp2_with (at_builtin; refine wpList_append_own _ rfl _ _ 30 rfl w.heap.size 23 i0 _ 5 16 Tryd.underlying30 hi hz0 hz1 hz2 rfl (by decide) _ 0 [] rfl (World.ownsRow_nil _ _ _ _) ⟨b, off, none⟩ l.length cap (cellsL l) rfl (cellsL_length l) HN.out (cellsL_one l) ?c1 ?c2 (Nat.le_refl _) ?_)
  case c1 => unfold maxLen; omega
  case c2 => omega
  intro v' w1 hown hgrow _
  have hown : w1.ownsRow w.heap.size 23 5 v' l.length (cellsL l) := by simpa using hown
  obtain ⟨g, cp, rfl⟩ := Joins.ownsRow_form hown hl0
  have hB1 : Below w.heap.size w w1 := (Below.refl _ _).grown hgrow (Nat.le_refl _) (fun j hj => by cases hj)
  have HO := Lib.hid (fun i hi => inAt_own rfl hown i hi)
  have h1 := h.of hB1
  have hg1 : g < w1.heap.size := (hown.lt g rfl).2
  have hw1 := hB1.size
  clear hown hgrow
  have kA := all_no l g cp m hm hbad (by omega) hwf hok w1 (fun i hi => HO.out i hi) hg1 h1.1 h1.2
  have kR := fun (x : World) (hx : Below w1.heap.size w1 x) => rall_no l b off cap m hm hbad (by omega) hwf hok x (fun i hi => (HC.out i hi).of (hB1.trans (hx.mono hw1)) hb) (Nat.lt_of_lt_of_le hb (Nat.le_trans hw1 hx.size))
  go_wp2_with (first | (go_at_call 11; ((with_reducible refine kA.mono ?_); (rintro e w2 ⟨rfl, hb2⟩); have kR2 := kR w2 hb2)) | (go_at_call 12; ((with_reducible refine kR2.mono ?_); (rintro e w3 ⟨rfl, hb3⟩))))
  have hB2 : Below w1.heap.size w1 w3 := hb2.trans (hb3.mono hb2.size)
  have h3 := h1.of hB2
  clear kA kR
  go_loopw [8] (fun i wr => ∃ k : Nat, k ≤ l.length ∧ i = .int .i64 k ∧ Below w1.heap.size w1 wr) (fun i _ => l.length - (intOf i).toNat)
  case atStart => exact ⟨0, Nat.zero_le _, rfl, hB2⟩
  case round =>
    obtain ⟨k, hk, rfl, hB⟩ := hrel
    by_cases hlt : k < l.length
    · obtain ⟨g0, g1, g2, g3, g4⟩ := (HC.out k hlt).of (hB1.trans (hB.mono hw1)) hb
      obtain ⟨f0, f1, f2, f3, f4⟩ := (HO.out k hlt).of hB hg1
      have n0 : (0 : Int) ≤ (k : Int) := by omega
      have n1 : (k : Int) < (l.length : Int) := by omega
      go_wp2
      go_quiet (fail)
      go_wp2
      go_roundw
      case rel => exact ⟨k + 1, by omega, by go_num, bdN hB _⟩
      case measure => first | (simp [intOf]; done) | (simp [intOf]; omega)
    · have hT := h1.of hB
      go_wp2_with (go_at_call 10; (with_reducible refine (alive_any _ hT).mono ?_); rintro e w4 ⟨rfl, hb4⟩)
      go_ret
      exact ⟨rfl, hB1.trans ((hB.mono hw1).trans (hb4.mono (Nat.le_trans hw1 hB.size)))⟩
theorem fin4 {w w1 w2 w3 w4 : World} (h1 : Below w.heap.size w w1) (h2 : Below w1.heap.size w1 w2) (h3 : Below w2.heap.size w2 w3) (h4 : Below w3.heap.size w3 w4) : Below w.heap.size w w4 := by
  have e1 := h1.size
  have e2 := Nat.le_trans e1 h2.size
  have e3 := Nat.le_trans e2 h3.size
  exact h1.trans ((h2.mono e1).trans ((h3.mono e2).trans (h4.mono e3)))
set_option maxHeartbeats 1000000 in
theorem walk_nil (w : World) (h : Tb w) :
    Calls Tryd.prog 4 #[.slice none 0 0] w fun e w' => e = .returned (.bool true) ∧ Below w.heap.size w w' := by
  go_enter Tryd.func4, Tryd.ntmps4
  go_wp2_with (first | (go_at_call 11; ((with_reducible refine (all_nil _).mono ?_); (rintro e w2 ⟨rfl, hb2⟩); have h2 := h.of hb2)) | (go_at_call 12; ((with_reducible refine (rall_nil _).mono ?_); (rintro e w3 ⟨rfl, hb3⟩); have h3 := h2.of hb3)))
  go_loopw [8] (fun i wr => i = .int .i64 0 ∧ wr = w3) (fun i _ => 0)
  case atStart => exact ⟨rfl, rfl⟩
  case round =>
    obtain ⟨rfl, rfl⟩ := hrel
    go_wp2_with (go_at_call 10; (with_reducible refine (alive_any _ h3).mono ?_); rintro e w4 ⟨rfl, hb4⟩)
    go_ret
    exact ⟨rfl, fin4 (Below.refl _ _) hb2 hb3 hb4⟩
set_option maxHeartbeats 1000000 in
theorem walk_zero (a : Addr) (cap : Nat) (w : World) (h : Tb w) :
    Calls Tryd.prog 4 #[.slice (some a) 0 cap] w fun e w' => e = .returned (.bool true) ∧ Below w.heap.size w w' := by
  obtain ⟨i0, hi, hz0, hz1, hz2⟩ := info_parts infoI
  go_enter Tryd.func4, Tryd.ntmps4
  go_wp2_with (at_builtin; refine wpList_append_own _ rfl _ _ 30 rfl w.heap.size 23 i0 _ 5 16 Tryd.underlying30 hi hz0 hz1 hz2 rfl (by decide) _ 0 [] rfl (World.ownsRow_nil _ _ _ _) a 0 cap [] rfl rfl (by intro j u hj; simp at hj) (by intro u hu; simp at hu) ?c1 ?c2 (Nat.le_refl _) ?_)
  case c1 => unfold maxLen; omega
  case c2 => omega
  intro v' w1 hown hgrow hn
  subst hn
  have hB1 : Below w.heap.size w w1 := (Below.refl _ _).grown hgrow (Nat.le_refl _) (fun j hj => by cases hj)
  have h1 := h.of hB1
  clear hown hgrow
  go_wp2_with (first | (go_at_call 11; ((with_reducible refine (all_nil _).mono ?_); (rintro e w2 ⟨rfl, hb2⟩); have h2 := h1.of hb2)) | (go_at_call 12; ((with_reducible refine (rall_zero a cap _).mono ?_); (rintro e w3 ⟨rfl, hb3⟩); have h3 := h2.of hb3)))
  go_loopw [8] (fun i wr => i = .int .i64 0 ∧ wr = w3) (fun i _ => 0)
  case atStart => exact ⟨rfl, rfl⟩
  case round =>
    obtain ⟨rfl, rfl⟩ := hrel
    go_wp2_with (go_at_call 10; (with_reducible refine (alive_any _ h3).mono ?_); rintro e w4 ⟨rfl, hb4⟩)
    go_ret
    exact ⟨rfl, fin4 hB1 hb2 hb3 hb4⟩
theorem addp (b off k : Nat) : (⟨b, off, none⟩ : Addr).add k = ⟨b, off + k, none⟩ := by
  unfold Addr.add
  split
  · rename_i h; subst h; rfl
  · rfl
theorem insn_cells {H : Type} {enc : TypeId × Value → H} {W : World} {base : Nat} {sp : Nat → Bool} {held : Bool} {fuel : Nat} {cs : List Value} {x : DataW H × List MemPlace} (h : DataW.trod enc Tryd.prog W base sp held fuel 23 cs = some x) :
    ∃ y : In, y.wf ∧ cs = [.int .u8 y.op, .int .u8 y.rd, .int .u8 y.rs1, .int .u8 y.rs2, .int .i64 y.imm] := by
  have hC : Tryd.prog.cellsOf 23 = 5 := by kernel_rfl
  have c8 : Tryd.prog.cellsOf 5 = 1 := by kernel_rfl
  have c64 : Tryd.prog.cellsOf 2 = 1 := by kernel_rfl
  obtain ⟨xs, n, _, hx, hl, hlen, hg⟩ := DataW.trod_struct Tryd.underlying23 h
  rw [hC] at hl
  match cs, hl with
  | [x0, x1, x2, x3, x4], _ =>
    match xs, hlen with
    | [y0, y1, y2, y3, y4], _ =>
      have e0 : DataW.trod enc Tryd.prog W base sp held n 5 [x0] = some y0 := by simpa [c8] using hg 0 _ rfl
      have e1 : DataW.trod enc Tryd.prog W base sp held n 5 [x1] = some y1 := by simpa [c8] using hg 1 _ rfl
      have e2 : DataW.trod enc Tryd.prog W base sp held n 5 [x2] = some y2 := by simpa [c8] using hg 2 _ rfl
      have e3 : DataW.trod enc Tryd.prog W base sp held n 5 [x3] = some y3 := by simpa [c8] using hg 3 _ rfl
      have e4 : DataW.trod enc Tryd.prog W base sp held n 2 [x4] = some y4 := by simpa [c64] using hg 4 _ rfl
      obtain ⟨n0, h0, _, w0⟩ := DataW.trod_int Tryd.underlying5 e0
      obtain ⟨n1, h1, _, w1⟩ := DataW.trod_int Tryd.underlying5 e1
      obtain ⟨n2, h2, _, w2⟩ := DataW.trod_int Tryd.underlying5 e2
      obtain ⟨n3, h3, _, w3⟩ := DataW.trod_int Tryd.underlying5 e3
      obtain ⟨n4, h4, _, w4⟩ := DataW.trod_int Tryd.underlying2 e4
      simp only [List.cons.injEq, and_true] at h0 h1 h2 h3 h4
      subst h0 h1 h2 h3 h4
      obtain ⟨y, hy, rfl, rfl, rfl, rfl, rfl⟩ := to_in w0 w1 w2 w3 w4
      exact ⟨y, hy, rfl⟩
theorem list_of {p : Nat → In → Prop} : ∀ n, (∀ i, i < n → ∃ x, p i x) → ∃ l : List In, l.length = n ∧ ∀ i (h : i < l.length), p i l[i]
  | 0, _ => ⟨[], rfl, fun i h => by simp at h⟩
  | n + 1, h => by
    obtain ⟨l, hl, hp⟩ := list_of n (fun i hi => h i (by omega))
    obtain ⟨x, hx⟩ := h n (by omega)
    refine ⟨l ++ [x], by simp [hl], fun i hi => ?_⟩
    by_cases e : i < l.length
    · rw [List.getElem_append_left e]; exact hp i e
    · have : i = n := by simp at hi; omega
      subst this
      rw [List.getElem_append_right (by omega)]
      simpa using hx
theorem open_insns {H : Type} {enc : TypeId × Value → H} {W : World} {sp : Nat → Bool} {held : Bool} {fuel b off len cap : Nat} {x : DataW H × List MemPlace}
    (h : DataW.trod enc Tryd.prog W 0 sp held fuel 30 [.slice (some ⟨b, off, none⟩) len cap] = some x) :
    ∃ l : List In, l.length = len ∧ (∀ x ∈ l, x.wf) ∧ (∀ i (h : i < l.length), inAt W b (off + i * 5) l[i]) := by
  have hC : Tryd.prog.cellsOf 23 = 5 := by kernel_rfl
  rcases DataW.trod_slice Tryd.underlying30 h with ⟨hcs, _⟩ | ⟨a, len', cap', elems, rest, n, _, hcs, _, _, hl, hm, hlen, hel, _⟩
  · simp at hcs
  · simp only [List.cons.injEq, Value.slice.injEq, Option.some.injEq, and_true] at hcs
    obtain ⟨rfl, rfl, rfl⟩ := hcs
    obtain ⟨l, hl1, hp⟩ := list_of (p := fun i y => y.wf ∧ inAt W b (off + i * 5) y) len (fun i hi => by
      have he := hel i hi
      rw [List.getElem?_eq_getElem (by omega), hC] at he
      simp only [Option.bind_eq_some_iff] at he
      obtain ⟨cs', hc, ht⟩ := he
      obtain ⟨y, hy, rfl⟩ := insn_cells ht
      obtain ⟨_, _, hat⟩ := World.cells?_some hc
      rw [addp] at hat
      refine ⟨y, hy, ?_⟩
      have k0 := hat 0 (by omega)
      have k1 := hat 1 (by omega)
      have k2 := hat 2 (by omega)
      have k3 := hat 3 (by omega)
      have k4 := hat 4 (by omega)
      rw [addp] at k0 k1 k2 k3 k4
      exact ⟨k0, k1, k2, k3, k4⟩)
    refine ⟨l, hl1, fun z hz => ?_, fun i hi => (hp i hi).2⟩
    obtain ⟨i, hi, rfl⟩ := List.getElem_of_mem hz
    exact (hp i hi).1
theorem laidOut : laidOutB Tryd.prog = true := by kernel_rfl
theorem slice_spot {H : Type} {enc : TypeId × Value → H} {W : World} {sp : Nat → Bool} {held : Bool} {fuel b off len cap : Nat} {spot : Option _} {x : DataW H × List MemPlace}
    (h : DataW.trod enc Tryd.prog W 0 sp held fuel 30 [.slice (some ⟨b, off, spot⟩) len cap] = some x) (hl : 0 < len) : spot = none := by
  have hC : Tryd.prog.cellsOf 23 = 5 := by kernel_rfl
  rcases DataW.trod_slice Tryd.underlying30 h with ⟨hcs, _⟩ | ⟨a, len', cap', elems, rest, n, _, hcs, _, _, hlc, hm, hlen, hel, _⟩
  · simp at hcs
  · simp only [List.cons.injEq, Value.slice.injEq, Option.some.injEq, and_true] at hcs
    obtain ⟨rfl, rfl, rfl⟩ := hcs
    have he := hel 0 hl
    rw [List.getElem?_eq_getElem (by omega), hC] at he
    simp only [Option.bind_eq_some_iff] at he
    obtain ⟨cs', hc, ht⟩ := he
    obtain ⟨y, hy, rfl⟩ := insn_cells ht
    obtain ⟨_, _, hat⟩ := World.cells?_some hc
    have k0 := hat 0 (by omega)
    simpa [Addr.add] using World.cell?_spot k0
theorem own : ownKnob Tryd.prog.godebug = none := by kernel_rfl
set_option maxRecDepth 100000 in
theorem lifted (os : Os) (started : os.Started) (H : Type) (enc : TypeId × Value → H) :
    ReturnsInHanded {} Tryd.checked os 4 .any (fun w args => (Rows.insnAllSpec.pre enc Tryd.prog Tryd.f4 [] false w args ∧ laidMetH Tryd.prog laidAll w) ∧ sizedMet enc Tryd.prog Tryd.f4 (OpenSpec.ofChange Rows.insnAllSpec) false w args)
      (Rows.insnAllSpec.post enc Tryd.prog Tryd.f4 false true false false) := by
  refine returnsInHanded_of_change_and (C := Tryd.checked) (X := fun w _ => laidMetH Tryd.prog laidAll w) (fun _ _ _ hh h => h.of_heap hh) own started (by kernel_rfl) Tryd.func4
    (ChangeSpec.witness_shaped (enc := enc) (C := Tryd.checked) (os := os) (X := fun w _ => laidMetH Tryd.prog laidAll w) false (World.doorLaid Tryd.prog 400 os) #[.slice none 0 0] 8 rfl (World.shaped_of_RefB (by kernel_rfl) (by kernel_rfl)) (by kernel_rfl) (by kernel_rfl) (by kernel_rfl) (door_met os _)) ?_
  intro W base args ds gs before hval0 hW _ _ hL _
  have hval : ∀ (j : Nat) t v, Tryd.f4.params[j]? = some t → args[j]? = some v → Value.okWide Tryd.prog W .any base t v := hval0
  have hW' := hW
  obtain ⟨p, q, hA0, hV, rfl, hfz, hnd⟩ := hW
  have hA : DataW.TrodAll enc Tryd.prog W 0 (fun _ => true) true Tryd.f4.params.toList args.toList ds p := hA0
  rw [Tryd.params4] at hA hval
  obtain ⟨v0, vs0, d0, ds0, p0, q0, hargs, rfl, rfl, h0, r0⟩ := trodAll_cons hA
  obtain ⟨rfl, rfl, rfl⟩ := trodAll_nil r0
  obtain rfl : args = #[v0] := by cases args; simp_all
  obtain ⟨rfl, rfl⟩ := trodVars_none hV
  obtain ⟨a0, len, cap, rfl⟩ := okWide_slice Tryd.underlying30 (hval 0 30 v0 rfl rfl)
  have h0k := h0
  obtain ⟨fuel, hf⟩ := h0
  clear hA0 hval0
  simp only [List.append_nil] at hW'
  have hlt : ∀ x ∈ p0, x.block < W.heap.size := fun x hx => by simpa using hW'.lt x hx
  have hTb := tb_of_laid hL
  have fin : ∀ e W', (e = Ending.returned (.bool true) ∧ Below W.heap.size W W') → ∃ v, e = Ending.returned v ∧ Rows.insnAllSpec.post enc Tryd.checked.prog Tryd.f4 false true false false W #[.slice a0 len cap] v W' := by
    intro e W' ⟨he, hg⟩
    subst he
    exact ⟨_, rfl, _, _, _, [], p0, [], hW', trodAll_mk1 (shut_bool Tryd.underlying4 _), trodAll_mk1 (Below.trod laidOut (by kernel_rfl) (of_decide_eq_true (by kernel_rfl)) h0k hg hlt), rfl, hg.frame _, fun h => by cases h⟩
  have hf' : DataW.trod enc Tryd.prog W 0 (fun _ => true) true fuel 30 [.slice a0 len cap] = some (d0, p0) := hf
  rcases DataW.trod_slice Tryd.underlying30 hf' with ⟨hcs, _⟩ | ⟨a, len', cap', elems, rest, n, _, hcs, _, _, hlc, hm, _⟩
  · simp at hcs
    obtain ⟨rfl, rfl, rfl⟩ := hcs
    exact (walk_nil W hTb).mono fin
  · simp only [List.cons.injEq, Value.slice.injEq, and_true] at hcs
    obtain ⟨rfl, rfl, rfl⟩ := hcs
    unfold maxLen at hm
    by_cases hbig : 300 < len
    · exact (walk_big _ len cap a rfl hbig (by omega) W hTb).mono fin
    by_cases hl0 : len = 0
    · subst hl0
      exact (walk_zero a cap W hTb).mono fin
    · obtain ⟨b, off, spot⟩ := a
      obtain rfl : spot = none := slice_spot hf' (by omega)
      obtain ⟨l, hl, hwf, hc⟩ := open_insns hf'
      subst hl
      have hbW : b < W.heap.size := World.block_lt_of_cell? W _ (hc 0 (by omega)).1
      rcases first_bad l with hok | ⟨m, hmm, hbad, hok⟩
      · exact (walk_yes l b off cap (by omega) (by omega) hwf hok W hTb hc hbW).mono fin
      · exact (walk_no l b off cap m hmm hbad (by omega) (by omega) hwf hok W hTb hc hbW).mono fin
theorem over : Rows.InsnAllSaid :=
  OpenClaim.holds_of_wide 4 Tryd.f4 rfl rfl rfl rfl rfl rfl rfl ⟨rfl, rfl, rfl, rfl, rfl⟩ rfl rfl rfl rfl rfl (by kernel_rfl) Tryd.func4 (by kernel_rfl)
    (of_decide_eq_true (by kernel_rfl)) (by unfold Func.isWrapper; first | (rw [if_pos (by decide +kernel)]; kernel_rfl) | (rw [if_neg (by decide +kernel)]; exact ⟨rfl, rfl⟩))
    (fun os started H enc _ => lifted os started H enc)
/-- The card: the row, its listed tables tied to the text of the program. -/
theorem proved : Rows.InsnAllCardSaid :=
  Claim7.holds_tied_plain_at .later [] [.data, .data] true Rows.insnAllCard.stood.harness Rows.insnAllCard.stood.looks
    over (fun _ h => by cases h) (by kernel_rfl) (fun _ h => by cases h) insnAll_row_tie rfl ⟨rfl, rfl⟩ (by kernel_rfl) rfl
    (fun f fn hf hfn => by
      obtain rfl : f = 4 := Option.some.inj ((show Tryd.prog.funcNamed "sacristy/sacristylaw02.InsnAll" = some 4 by kernel_rfl).symm.trans hf) |>.symm
      obtain rfl : fn = Tryd.f4 := (Option.some.inj (Tryd.func4.symm.trans hfn)).symm
      exact ⟨by kernel_rfl, fun j t ht => by
        rw [Tryd.params4] at ht
        have hm : t ∈ [30] := by simpa using Array.mem_of_getElem? ht
        have hall : ([30].all fun u => !Tryd.prog.wantsStandIn u) = true := by kernel_rfl
        exact (show Tryd.prog.wantsStandIn t = false by simpa using List.all_eq_true.1 hall t hm)⟩)
    (by kernel_rfl)
end Go.Proofs.YthlmdcokiamfkaaDoor.insnAll
