/- Plain words on regions: which may be, where a stretch lies, what a memory has. No conditions. -/
import Derived.Test.YtcckgfablfgknaaGreatDoorQd
import Derived.BigQuiet
import Derived.Deep.QuietTactic
import Derived.RegionTactic
import Derived.BigRegion
namespace Go.Proofs.YtcckgfablfgknaaGreatDoor.m4
open Go.ChangeShapes Go.WideShapes Go.ChangeAt Go.RowKit
set_option linter.unusedVariables false
/-- A region: from, size, kind. -/
structure Rg where
  f : Nat
  s : Nat
  k : Nat
deriving Inhabited, DecidableEq
def Rg.wf (r : Rg) : Prop := r.f < 18446744073709551616 ∧ r.s < 18446744073709551616 ∧ r.k < 256
def Rg.one (r : Rg) : Prop := 1 ≤ r.k ∧ r.k ≤ 4 ∧ 1 ≤ r.s ∧ r.s ≤ 1048576
def Rg.ok (r : Rg) : Prop := r.one ∧ r.f + r.s ≤ 1099511627776
def meets (r o : Rg) : Prop := r.f < o.f + o.s ∧ o.f < r.f + r.s
def rg (l : List Rg) (i : Nat) : Rg := l.getD i ⟨0, 0, 0⟩
def Good (l : List Rg) (i : Nat) : Prop := (rg l i).ok ∧ ∀ k < i, ¬ meets (rg l i) (rg l k)
def MayL (l : List Rg) : Prop := (∀ i < l.length, Good l i) ∧ 1 ≤ l.length ∧ l.length ≤ 16
def wfL (l : List Rg) : Prop := ∀ i, (rg l i).wf
/-- The cells of a region. -/
def regAt (w : World) (b o : Nat) (r : Rg) : Prop := w.cell? ⟨b, o, none⟩ = some (.int .u64 r.f) ∧ w.cell? ⟨b, o + 1, none⟩ = some (.int .u64 r.s) ∧ w.cell? ⟨b, o + 2, none⟩ = some (.int .u8 r.k)
def rowAt (w : World) (b o : Nat) (l : List Rg) : Prop := ∀ i < l.length, regAt w b (o + i * 3) (rg l i)
/-- A row of regions, as a slice has it. -/
def SlOf (w : World) (v : Value) (l : List Rg) : Prop := (l = [] ∧ ∃ a c, v = .slice a 0 c) ∨ ∃ b o c, v = .slice (some ⟨b, o, none⟩) l.length c ∧ rowAt w b o l ∧ b < w.heap.size ∧ l.length ≤ c
theorem stay {w w' : World} (hb : Below w.heap.size w w') {p : Addr} {v : Value} (h : w.cell? p = some v) : w'.cell? p = some v := (hb.cell (World.block_lt_of_cell? w _ h)).trans h
theorem regAt.of {w w' : World} {b o : Nat} {r : Rg} (h : regAt w b o r) (hb : Below w.heap.size w w') : regAt w' b o r := ⟨stay hb h.1, stay hb h.2.1, stay hb h.2.2⟩
theorem rowAt.of {w w' : World} {b o : Nat} {l : List Rg} (h : rowAt w b o l) (hb : Below w.heap.size w w') : rowAt w' b o l := fun i hi => (h i hi).of hb
theorem SlOf.of {w w' : World} {v : Value} {l : List Rg} (h : SlOf w v l) (hb : Below w.heap.size w w') : SlOf w' v l := by
  rcases h with h | ⟨b, o, c, h, hr, hl, hc⟩
  · exact .inl h
  · exact .inr ⟨b, o, c, h, hr.of hb, Nat.lt_of_lt_of_le hl hb.size, hc⟩
theorem may_not {l : List Rg} {i : Nat} (hi : i < l.length) (h : ¬ Good l i) : ¬ MayL l := fun hm => h (hm.1 i hi)
theorem gets_three {n : Nat} {P : Nat → Prop} : (∀ i < n, P i) ∨ ∃ i < n, ¬ P i ∧ ∀ j < i, P j := by
  induction n with
  | zero => exact .inl (fun i hi => by omega)
  | succ n ih =>
    rcases ih with h | ⟨i, hi, hn, hj⟩
    · by_cases hp : P n
      · exact .inl fun i hi => by
          rcases Nat.lt_or_ge i n with h1 | h1
          · exact h i h1
          · obtain rfl : i = n := by omega
            exact hp
      · exact .inr ⟨n, by omega, hp, h⟩
    · exact .inr ⟨i, by omega, hn, hj⟩
theorem sub40 (s : Nat) (h : s ≤ 1048576) : IntKind.u64.wrap (1099511627776 - (s : Int)) = ((1099511627776 - s : Nat) : Int) := by rw [IntKind.wrap_u64]; omega
theorem add64 (a b : Nat) (h : a + b < 18446744073709551616) : IntKind.u64.wrap ((a : Int) + (b : Int)) = ((a + b : Nat) : Int) := by rw [IntKind.wrap_u64]; omega
theorem sub64 (a b : Nat) (h : b ≤ a) (ha : a < 18446744073709551616) : IntKind.u64.wrap ((a : Int) - (b : Int)) = ((a - b : Nat) : Int) := by rw [IntKind.wrap_u64]; omega
theorem bdN {B : Nat} {a w : World} (h : Below B a w) (n : Nat) : Below B a (w.drewN n) := h.trans ⟨rfl, rfl, rfl, Nat.le_refl _, fun _ _ => rfl⟩
theorem bd1 {B : Nat} {a w : World} (h : Below B a w) : Below B a w.drew := h.trans ⟨rfl, rfl, rfl, Nat.le_refl _, fun _ _ => rfl⟩
theorem below_trans' {B : Nat} {W w w' : World} (h : Below B W w) (hB : B ≤ W.heap.size) (hb : Below w.heap.size w w') : Below B W w' := h.trans (hb.mono (Nat.le_trans hB h.size))
theorem sBelow {B : Nat} {a b : World} {k o : Nat} {v : Value} (h : Below B a b) (hk : B ≤ k) : Below B a (b.setCell ⟨k, o, none⟩ v) := h.setCell hk v
theorem aBelow {W w : World} (h : Below W.heap.size W w) (o : Obj) : Below W.heap.size W (w.alloc o) := h.alloc h.size _
theorem addp (b off k : Nat) : (⟨b, off, none⟩ : Addr).add k = ⟨b, off + k, none⟩ := by
  unfold Addr.add
  split
  · rename_i h; subst h; rfl
  · rfl
theorem nwc (x : World) (C : Array Value) (t : TypeId) (o : Nat) : (x.alloc (.cells C t)).cell? ⟨x.heap.size, o, none⟩ = C[o]? := by
  have e : (x.alloc (.cells C t)).heap[x.heap.size]? = some (.cells C t (0, 0)) := by show (x.heap.push _)[x.heap.size]? = _; simp
  unfold World.cell?
  simp only [e]
  rfl
theorem nwf (x : World) (C : Array Value) (t : TypeId) (o : Nat) : (x.alloc (.cells C t)).frozen? ⟨x.heap.size, o, none⟩ = false := by
  have e : (x.alloc (.cells C t)).heap[x.heap.size]? = some (.cells C t (0, 0)) := by show (x.heap.push _)[x.heap.size]? = _; simp
  unfold World.frozen?
  simp only [e]
  simp
/-- A region that draws its order, whose operations only read and whose callees leave alone what lay before: one walk, in the order of the text. -/
theorem region_below {P : Program} {id : Nat} {Q : Exit → Act → World → Prop} {a : Act} {w : World} {l : List Oper} (hm : P.follows .mixedOrders = true) (hB : Region.lexB .any l.toArray = true)
    (h : wpQuiet P l.toArray (fun w' => Below w.heap.size w w') (fun a' => ∀ w', Below w.heap.size w w' → Q .normal a' w') l a) : (Code.region id l.toArray true).wp P Q a w :=
  wp_region_quiet (C := fun w' => Below w.heap.size w w') hm hB (bd1 (Below.refl _ w)) h
theorem bqk {P : Program} {ops : Array Oper} {C : World → Prop} {Q : Act → Prop} {a : Act} {o : Oper} {rest : List Oper} (v : Value)
    (hw : Region.wanted o (yielded ops a.tmps) = true) (h : ∀ w', C w' → o.quietAt P a C w' v) (k : ∀ K : Act → Prop, (∀ a, wpQuiet P ops C Q rest a → K a) → K (a.put o.dst v)) : wpQuiet P ops C Q (o :: rest) a :=
  BigFrame.wpQuiet_want hw fun K hK => ⟨v, h, k K hK⟩
theorem cbd (x : World) (C : Array Value) (t : TypeId) (b o : Nat) (hb : b = x.heap.size) : (x.alloc (.cells C t)).drew.cell? ⟨b, o, none⟩ = C[o]? := by
  subst hb
  exact nwc x C t o
theorem cb' (x : World) (C : Array Value) (t : TypeId) (b o : Nat) (hb : b = x.heap.size) : (x.alloc (.cells C t)).cell? ⟨b, o, none⟩ = C[o]? := by
  subst hb
  exact nwc x C t o
/-- A bool that stands for a proposition. -/
def RB (e : Ending) (p : Prop) : Prop := ∃ r, e = .returned (.bool r) ∧ (r = true ↔ p)
theorem RB_t {p : Prop} (h : p) : RB (.returned (.bool true)) p := ⟨true, rfl, by simpa using h⟩
theorem RB_f {p : Prop} (h : ¬ p) : RB (.returned (.bool false)) p := ⟨false, rfl, by simpa using h⟩
theorem RB_d {p : Prop} {b : Bool} (h : b = true ↔ p) : RB (.returned (.bool b)) p := ⟨b, rfl, h⟩
end Go.Proofs.YtcckgfablfgknaaGreatDoor.m4
