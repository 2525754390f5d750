/- What a memory answers, plainly: by its regions, the bytes and taints of its places. No conditions. -/
import Derived.Test.YtkcgnpcfdfkpjaaSl
namespace Go.Proofs.Ytkcgnpcfdfkpjaa
open Go.RowKit
set_option linter.unusedVariables false
instance (r : Rg) (p n : Nat) : Decidable (r.has p n) := by unfold Rg.has; infer_instance
/-- The region that holds a stretch. -/
def hitI (l : List Rg) (p n : Nat) : Option Nat := (List.range l.length).find? fun i => decide ((rg l i).has p n)
theorem hit_none {l : List Rg} {p n : Nat} (h : hitI l p n = none) : ∀ j < l.length, ¬ (rg l j).has p n := fun j hj hh => by
  unfold hitI at h
  rw [List.find?_eq_none] at h
  exact absurd (decide_eq_true hh) (by simpa using h j (List.mem_range.2 hj))
theorem hit_some {l : List Rg} {p n i : Nat} (h : hitI l p n = some i) : i < l.length ∧ (rg l i).has p n := by
  unfold hitI at h
  have h1 := List.find?_some h
  have h2 := List.mem_of_find?_eq_some h
  exact ⟨List.mem_range.1 h2, by simpa using h1⟩
theorem has_one {l : List Rg} (hl : MayL l) {p n i j : Nat} (hi : i < l.length) (hj : j < l.length) (h1 : (rg l i).has p n) (h2 : (rg l j).has p n) : i = j := by
  obtain ⟨a1, a2, a3⟩ := h1
  obtain ⟨b1, b2, b3⟩ := h2
  rcases Nat.lt_trichotomy i j with h | h | h
  · exact absurd ⟨by omega, by omega⟩ ((hl.1 j hj).2 i h)
  · exact h
  · exact absurd ⟨by omega, by omega⟩ ((hl.1 i hi).2 j h)
theorem hit_is {l : List Rg} (hl : MayL l) {p n i : Nat} (h : hitI l p n = some i) : Hit l p n 1 i := by
  obtain ⟨h1, h2⟩ := hit_some h
  exact Or.inl ⟨rfl, h1, h2, fun j hj hne hh => hne (has_one hl hj h1 hh h2)⟩
theorem hit_isnt {l : List Rg} {p n : Nat} (h : hitI l p n = none) : Hit l p n 0 0 := Or.inr ⟨rfl, hit_none h⟩
theorem beg_succ (l : List Rg) (i : Nat) (h : i < l.length) : beg l (i + 1) = beg l i + (rg l i).s := by
  unfold beg
  rw [List.take_succ_eq_append_getElem h, List.map_append, List.sum_append]
  simp [rg, List.getD_eq_getElem?_getD, List.getElem?_eq_getElem h]
theorem beg_le (l : List Rg) : ∀ (j i : Nat), i ≤ j → j ≤ l.length → beg l i ≤ beg l j
  | 0, i, h, _ => by
    obtain rfl : i = 0 := by omega
    exact Nat.le_refl _
  | j + 1, i, h, hj => by
    rcases Nat.lt_or_ge j i with h1 | h1
    · obtain rfl : i = j + 1 := by omega
      exact Nat.le_refl _
    · have := beg_le l j i h1 (by omega)
      rw [beg_succ l j (by omega)]
      omega
def tot (l : List Rg) : Nat := beg l l.length
theorem beg_in {l : List Rg} {i : Nat} (h : i < l.length) : beg l i + (rg l i).s ≤ tot l := by
  rw [← beg_succ l i h]; exact beg_le l _ _ (by omega) (Nat.le_refl _)
/-- Where a stretch lies. -/
def pos (l : List Rg) (i p n : Nat) : Nat := off0 (beg l i) (p - (rg l i).f) n
theorem pos_in {l : List Rg} {p n i : Nat} (h : hitI l p n = some i) : beg l i ≤ pos l i p n ∧ pos l i p n + n ≤ beg l i + (rg l i).s := by
  obtain ⟨_, h2, h3, h4⟩ := hit_some h
  unfold pos off0
  split <;> omega
theorem pos_tot {l : List Rg} {p n i : Nat} (h : hitI l p n = some i) : pos l i p n + n ≤ tot l := Nat.le_trans (pos_in h).2 (beg_in (hit_some h).1)
def upd {α : Type} (g : Nat → α) (q n : Nat) (f : Nat → α) (k : Nat) : α := if q ≤ k ∧ k < q + n then f (k - q) else g k
/-- The number of n bytes. -/
def ldv (bv : Nat → Nat) (q : Nat) : Nat → Nat
  | 0 => 0
  | n + 1 => bv q + 256 * ldv bv (q + 1) n
def ldt (tv : Nat → Bool) (q n : Nat) : Bool := (List.range n).any fun k => tv (q + k)
theorem ldt_iff {tv : Nat → Bool} {q n : Nat} : ldt tv q n = true ↔ ∃ k < n, tv (q + k) = true := by
  unfold ldt; rw [List.any_eq_true]
  exact ⟨fun ⟨k, hk, h⟩ => ⟨k, List.mem_range.1 hk, h⟩, fun ⟨k, hk, h⟩ => ⟨k, List.mem_range.2 hk, h⟩⟩
theorem ldv_lt {bv : Nat → Nat} (hb : ∀ k, bv k < 256) : ∀ (n q : Nat), ldv bv q n < 256 ^ n
  | 0, q => by simp [ldv]
  | n + 1, q => by
    have := ldv_lt hb n (q + 1)
    have := hb q
    unfold ldv
    rw [Nat.pow_succ]
    omega
theorem ldv_lt64 {bv : Nat → Nat} (hb : ∀ k, bv k < 256) (n q : Nat) (hn : n ≤ 8) : ldv bv q n < 18446744073709551616 :=
  Nat.lt_of_lt_of_le (ldv_lt hb n q) (Nat.pow_le_pow_right (n := 256) (by omega) hn)
def numsAt (bv : Nat → Nat) (q n : Nat) : List Int := (List.range n).map fun k => ((bv (q + k) : Nat) : Int)
theorem numsAt_length (bv : Nat → Nat) (q n : Nat) : (numsAt bv q n).length = n := by simp [numsAt]
theorem numsAt_getD (bv : Nat → Nat) (q n k : Nat) (h : k < n) : (numsAt bv q n).getD k 0 = (bv (q + k) : Nat) := by simp [numsAt, List.getD_eq_getElem?_getD, h]
theorem wordv_nums {bv : Nat → Nat} (hb : ∀ k, bv k < 256) : ∀ (n q : Nat), wordv (strOfNums (numsAt bv q n)).data.toList = ldv bv q n
  | 0, q => rfl
  | n + 1, q => by
    rw [strOfNums_data]
    have e : numsAt bv q (n + 1) = ((bv q : Nat) : Int) :: numsAt bv (q + 1) n := by
      unfold numsAt
      rw [List.range_succ_eq_map, List.map_cons, List.map_map]
      congr 1
      exact List.map_congr_left fun k _ => by simp only [Function.comp]; rw [show q + (k + 1) = q + 1 + k by omega]
    have ih := wordv_nums hb n (q + 1)
    rw [strOfNums_data] at ih
    rw [e, List.map_cons, wordv, ih, ldv]
    congr 1
    rw [Int.toNat_natCast, UInt8.toNat_ofNat']
    exact Nat.mod_eq_of_lt (hb q)
/-- Load: the number, the taint, the error. -/
def ldF (l : List Rg) (bv : Nat → Nat) (tv : Nat → Bool) (p : Nat) (n : Int) : Nat × Bool × Int :=
  if n < 1 ∨ 8 < n then (0, false, 2) else match hitI l p n.toNat with
    | none => (0, false, 40)
    | some i => if (rg l i).k = 1 then (0, false, 40) else (ldv bv (pos l i p n.toNat) n.toNat, ldt tv (pos l i p n.toNat) n.toNat, 0)
/-- Byte k of a word. -/
def wb (v k : Nat) : Nat := v / 256 ^ k % 256
/-- Where a Store lays. -/
def stO (l : List Rg) (p : Nat) (n : Int) : Option Nat :=
  if n < 1 ∨ 8 < n then none else match hitI l p n.toNat with
    | none => none
    | some i => if (rg l i).k = 3 ∨ (rg l i).k = 4 then some (pos l i p n.toNat) else none
def stE (l : List Rg) (p : Nat) (n : Int) : Int := if n < 1 ∨ 8 < n then 2 else if (stO l p n).isSome then 0 else 40
def upO {α : Type} (o : Option Nat) (g : Nat → α) (n : Nat) (f : Nat → α) : Nat → α := match o with
  | none => g
  | some q => upd g q n f
def feF (l : List Rg) (bv : Nat → Nat) (p : Nat) : Nat × Int := if p % 4 ≠ 0 then (0, 40) else match hitI l p 4 with
  | none => (0, 40)
  | some i => if (rg l i).k = 1 then (ldv bv (pos l i p 4) 4, 0) else (0, 40)
def seO (l : List Rg) (p n : Nat) : Option Nat := match hitI l p n with
  | none => none
  | some i => some (pos l i p n)
def seE (l : List Rg) (p n : Nat) : Int := if (seO l p n).isSome then 0 else 40
/-- Bytes: from where on, how many; none: an error. -/
def byO (l : List Rg) (p : Nat) (n : Int) : Option Nat := if n < 0 ∨ 1048576 < n then none else seO l p n.toNat
def byE (l : List Rg) (p : Nat) (n : Int) : Int := if n < 0 ∨ 1048576 < n then 2 else if (byO l p n).isSome then 0 else 40
def byS (l : List Rg) (bv : Nat → Nat) (p : Nat) (n : Int) : ByteArray := match byO l p n with
  | none => ByteArray.empty
  | some q => strOfNums (numsAt bv q n.toNat)
def byT (l : List Rg) (tv : Nat → Bool) (p : Nat) (n : Int) : List Value := match byO l p n with
  | none => []
  | some q => tl tv q n.toNat
end Go.Proofs.Ytkcgnpcfdfkpjaa
