/- What is stored is loaded, byte by byte; what lies elsewhere does not change: plainly. No conditions. -/
import Derived.Test.YtfaacmcnefbgcaaGreatDoorQg
import Derived.Test.YtfaacmcnefbgcaaGreatDoorQh
namespace Go.Proofs.YtfaacmcnefbgcaaGreatDoor.m4
open Go.RowKit
set_option linter.unusedVariables false
theorem hit_eq {l : List Rg} (hl : MayL l) {i p n : Nat} (hi : i < l.length) (h : (rg l i).has p n) : hitI l p n = some i := by
  cases hh : hitI l p n with
  | none => exact absurd h (hit_none hh i hi)
  | some j =>
    obtain ⟨h1, h2⟩ := hit_some hh
    rw [has_one hl h1 hi h2 h]
theorem upO_none {α : Type} (g : Nat → α) (n : Nat) (f : Nat → α) : upO none g n f = g := rfl
/-- The error of a load does not hang on the bytes. -/
theorem ldF_err (l : List Rg) (bv bv' : Nat → Nat) (tv tv' : Nat → Bool) (p : Nat) (n : Int) : (ldF l bv tv p n).2.2 = (ldF l bv' tv' p n).2.2 := by
  unfold ldF
  split
  · rfl
  · split
    · rfl
    · split <;> rfl
theorem ldv_one (bv : Nat → Nat) (q : Nat) : ldv bv q 1 = bv q := by simp [ldv]
theorem ldt_one (tv : Nat → Bool) (q : Nat) : ldt tv q 1 = tv q := by simp [ldt, List.range_succ]
theorem st_some {l : List Rg} {p q : Nat} {n : Int} (h : stO l p n = some q) : ∃ m : Nat, n = m ∧ 1 ≤ m ∧ m ≤ 8 ∧ ∃ i, hitI l p m = some i ∧ q = beg l i + (p - (rg l i).f) ∧ ((rg l i).k = 3 ∨ (rg l i).k = 4) := by
  unfold stO at h
  split at h
  · cases h
  · rename_i hn
    refine ⟨n.toNat, by omega, by omega, by omega, ?_⟩
    split at h
    · cases h
    · rename_i i hi
      split at h
      · rename_i hk
        refine ⟨i, hi, ?_, hk⟩
        injection h with h
        rw [← h]; unfold pos off0; rw [if_neg (by omega)]
      · cases h
theorem st_err {l : List Rg} {p : Nat} {n : Int} : (stO l p n = none ∧ ((stE l p n = 2 ∧ (n < 1 ∨ 8 < n)) ∨ (stE l p n = 40 ∧ ¬ (n < 1 ∨ 8 < n)))) ∨ ∃ q, stO l p n = some q ∧ stE l p n = 0 := by
  cases h : stO l p n with
  | none =>
    left
    refine ⟨rfl, ?_⟩
    unfold stE
    by_cases hn : n < 1 ∨ 8 < n
    · rw [if_pos hn]; exact Or.inl ⟨rfl, hn⟩
    · rw [if_neg hn, h]; exact Or.inr ⟨rfl, hn⟩
  | some q =>
    right
    refine ⟨q, rfl, ?_⟩
    obtain ⟨m, rfl, h1, h8, _⟩ := st_some h
    unfold stE
    rw [if_neg (by omega), h]; rfl
theorem ld_hit {l : List Rg} {bv : Nat → Nat} {tv : Nat → Bool} {z i : Nat} (h : hitI l z 1 = some i) (hk : (rg l i).k ≠ 1) : ldF l bv tv z 1 = (bv (beg l i + (z - (rg l i).f)), tv (beg l i + (z - (rg l i).f)), 0) := by
  unfold ldF
  rw [if_neg (by omega), show (1 : Int).toNat = 1 from rfl, h]
  simp only
  rw [if_neg hk, ldv_one, ldt_one]; rfl
/-- Within what was stored: the byte. -/
theorem keep_in {l : List Rg} (hl : MayL l) {p q m d v : Nat} (bv : Nat → Nat) (tv : Nat → Bool) (t : Bool) (h : stO l p m = some q) (hd : d < m) : ldF l (upd bv q m (wb v)) (upd tv q m fun _ => t) (p + d) 1 = (wb v d, t, 0) := by
  obtain ⟨m', hm, h1, h8, i, hi, rfl, hk⟩ := st_some h
  obtain rfl : m = m' := by omega
  obtain ⟨hil, hf1, hf2, hf3⟩ := hit_some hi
  have hz : hitI l (p + d) 1 = some i := hit_eq hl hil ⟨by omega, by omega, by omega⟩
  rw [ld_hit hz (by omega)]
  unfold upd
  rw [if_pos (by omega), if_pos (by omega)]
  rw [show beg l i + (p + d - (rg l i).f) - (beg l i + (p - (rg l i).f)) = d by omega]
theorem apart {l : List Rg} {i j x y : Nat} (hi : i < l.length) (hj : j < l.length) (hij : i ≠ j) (hx : x < (rg l i).s) (hy : y < (rg l j).s) : beg l i + x ≠ beg l j + y := by
  rcases Nat.lt_or_ge i j with h | h
  · have h1 := beg_le l j (i + 1) (by omega) (by omega)
    rw [beg_succ l i hi] at h1
    omega
  · have h1 := beg_le l i (j + 1) (by omega) (by omega)
    rw [beg_succ l j hj] at h1
    omega
/-- Elsewhere: as it was. -/
theorem keep_out {l : List Rg} (hl : MayL l) {p q m z v : Nat} (bv : Nat → Nat) (tv : Nat → Bool) (t : Bool) (h : stO l p m = some q) (hz : z < p ∨ p + m ≤ z) : ldF l (upd bv q m (wb v)) (upd tv q m fun _ => t) z 1 = ldF l bv tv z 1 := by
  obtain ⟨m', hm, h1, h8, i, hi, rfl, hk⟩ := st_some h
  obtain rfl : m = m' := by omega
  obtain ⟨hil, hf1, hf2, hf3⟩ := hit_some hi
  unfold ldF
  rw [if_neg (by omega), if_neg (by omega), show (1 : Int).toNat = 1 from rfl]
  cases hh : hitI l z 1 with
  | none => rfl
  | some j =>
    obtain ⟨hjl, hg1, hg2, hg3⟩ := hit_some hh
    simp only
    split
    · rfl
    · have hp : pos l j z 1 = beg l j + (z - (rg l j).f) := rfl
      rw [ldv_one, ldt_one, ldv_one, ldt_one, hp]
      have hno : ¬ (beg l i + (p - (rg l i).f) ≤ beg l j + (z - (rg l j).f) ∧ beg l j + (z - (rg l j).f) < beg l i + (p - (rg l i).f) + m) := by
        intro ⟨a1, a2⟩
        by_cases e : i = j
        · subst e; omega
        · have := apart (x := beg l j + (z - (rg l j).f) - beg l i) hil hjl e (by omega) (show z - (rg l j).f < (rg l j).s by omega)
          omega
      unfold upd
      rw [if_neg hno, if_neg hno]
theorem ldv_wb {g : Nat → Nat} {q v : Nat} : ∀ (m j : Nat), (∀ k < m, g (q + j + k) = wb v (j + k)) → ldv g (q + j) m = v / 256 ^ j % 256 ^ m
  | 0, j, _ => by simp [ldv, Nat.mod_one]
  | m + 1, j, h => by
    have ih := ldv_wb (g := g) (q := q) (v := v) m (j + 1) (fun k hk => by
      have := h (k + 1) (by omega)
      rw [show q + (j + 1) + k = q + j + (k + 1) by omega, show j + 1 + k = j + (k + 1) by omega]; exact this)
    have h0 := h 0 (by omega)
    simp only [Nat.add_zero] at h0
    unfold ldv
    rw [h0, show q + j + 1 = q + (j + 1) by omega, ih]
    unfold wb
    rw [Nat.pow_succ 256 m, Nat.mul_comm (256 ^ m) 256, Nat.mod_mul, Nat.pow_succ 256 j, ← Nat.div_div_eq_div_mul]
/-- All of what was stored. -/
theorem keep_all {l : List Rg} (hl : MayL l) {p q m v : Nat} (bv : Nat → Nat) (tv : Nat → Bool) (t : Bool) (h : stO l p m = some q) : ldF l (upd bv q m (wb v)) (upd tv q m fun _ => t) p m = (v % 256 ^ m, t, 0) := by
  obtain ⟨m', hm, h1, h8, i, hi, hq, hk⟩ := st_some h
  obtain rfl : m = m' := by omega
  unfold ldF
  rw [if_neg (by omega), Int.toNat_natCast, hi]
  simp only
  have hp : pos l i p m = q := by rw [hq]; unfold pos off0; rw [if_neg (by omega)]
  rw [if_neg (by omega), hp]
  have e1 : ldv (upd bv q m (wb v)) q m = v % 256 ^ m := by
    have := ldv_wb (g := upd bv q m (wb v)) (q := q) (v := v) m 0 (fun k hk => by unfold upd; rw [if_pos (by omega)]; congr 1; omega)
    simpa using this
  have e2 : ldt (upd tv q m fun _ => t) q m = t := by
    cases ht : ldt (upd tv q m fun _ => t) q m with
    | true =>
      obtain ⟨k, hk, he⟩ := ldt_iff.1 ht
      unfold upd at he
      rw [if_pos (by omega)] at he
      exact he.symm
    | false =>
      cases t with
      | false => rfl
      | true =>
        have : ldt (upd tv q m fun _ => true) q m = true := ldt_iff.2 ⟨0, by omega, by unfold upd; rw [if_pos (by omega)]⟩
        rw [this] at ht; exact ht.symm
  rw [e1, e2]
end Go.Proofs.YtfaacmcnefbgcaaGreatDoor.m4

/- The document's memory, in cells: what it is, how a byte and a taint are set; contract of its in. -/
namespace Go.Proofs.YtfaacmcnefbgcaaGreatDoor.m4
open Go.ChangeShapes Go.WideShapes Go.ChangeAt Go.RowKit
set_option linter.unusedVariables false
structure Mr where
  rb : Nat
  lb : Nat
  bb : Nat
  ub : Nat
  c1 : Nat
  c2 : Nat
  c3 : Nat
  bs : Nat → Nat
  ts : Nat → Nat
  l : List Rg
/-- Blocks that hold bytes or taints. -/
def Mr.bl (y : Mr) (j : Nat) : Prop := ∃ i < y.l.length, j = y.bs i ∨ j = y.ts i
/-- What of the document's memory does not change. -/
structure Rr (w : World) (y : Mr) : Prop where
  h0 : w.cell? ⟨y.rb, 0, none⟩ = some (.slice (some ⟨y.lb, 0, none⟩) y.l.length y.c1)
  h1 : w.cell? ⟨y.rb, 1, none⟩ = some (.slice (some ⟨y.bb, 0, none⟩) y.l.length y.c2)
  h2 : w.cell? ⟨y.rb, 2, none⟩ = some (.slice (some ⟨y.ub, 0, none⟩) y.l.length y.c3)
  row : rowAt w y.lb 0 y.l
  hb : ∀ i < y.l.length, w.cell? ⟨y.bb, i, none⟩ = some (.slice (some ⟨y.bs i, 0, none⟩) (rg y.l i).s (rg y.l i).s)
  ht : ∀ i < y.l.length, w.cell? ⟨y.ub, i, none⟩ = some (.slice (some ⟨y.ts i, 0, none⟩) (rg y.l i).s (rg y.l i).s)
theorem Rr.of {w w' : World} {y : Mr} (h : Rr w y) (b : Below w.heap.size w w') : Rr w' y :=
  ⟨stay b h.h0, stay b h.h1, stay b h.h2, h.row.of b, fun i hi => stay b (h.hb i hi), fun i hi => stay b (h.ht i hi)⟩
theorem Rr.only {w w' : World} {y : Mr} {S : Nat → Prop} (h : Rr w y) (ho : Only S w w') (s1 : ¬ S y.rb) (s2 : ¬ S y.lb) (s3 : ¬ S y.bb) (s4 : ¬ S y.ub) : Rr w' y :=
  ⟨ho.cell s1 h.h0, ho.cell s1 h.h1, ho.cell s1 h.h2, fun i hi => ⟨ho.cell s2 (h.row i hi).1, ho.cell s2 (h.row i hi).2.1, ho.cell s2 (h.row i hi).2.2⟩, fun i hi => ho.cell s3 (h.hb i hi), fun i hi => ho.cell s4 (h.ht i hi)⟩
/-- The document's memory, its bytes and taints. -/
structure IsR (w : World) (y : Mr) (bv : Nat → Nat) (tv : Nat → Bool) : Prop where
  rr : Rr w y
  vals : ∀ i < y.l.length, ∀ o < (rg y.l i).s, w.cell? ⟨y.bs i, o, none⟩ = some (.int .u8 (bv (beg y.l i + o) : Nat))
  tnts : ∀ i < y.l.length, ∀ o < (rg y.l i).s, w.cell? ⟨y.ts i, o, none⟩ = some (.bool (tv (beg y.l i + o)))
  fv : ∀ i < y.l.length, ∀ o, w.frozen? ⟨y.bs i, o, none⟩ = false
  ft : ∀ i < y.l.length, ∀ o, w.frozen? ⟨y.ts i, o, none⟩ = false
  lv : ∀ i < y.l.length, y.bs i < w.heap.size
  lt : ∀ i < y.l.length, y.ts i < w.heap.size
  dd : ∀ i < y.l.length, ∀ j < y.l.length, y.bs i ≠ y.ts j
  db : ∀ i < y.l.length, ∀ j < y.l.length, y.bs i = y.bs j → i = j
  dt : ∀ i < y.l.length, ∀ j < y.l.length, y.ts i = y.ts j → i = j
  n0 : ¬ y.bl y.rb
  n1 : ¬ y.bl y.lb
  n2 : ¬ y.bl y.bb
  n3 : ¬ y.bl y.ub
  may : MayL y.l
  wf : wfL y.l
  b8 : ∀ k, bv k < 256
theorem IsR.of {w w' : World} {y : Mr} {bv : Nat → Nat} {tv : Nat → Bool} (h : IsR w y bv tv) (hb : Below w.heap.size w w') : IsR w' y bv tv :=
  { h with rr := h.rr.of hb, vals := fun i hi o ho => stay hb (h.vals i hi o ho), tnts := fun i hi o ho => stay hb (h.tnts i hi o ho), fv := (fun i hi o => ((only_below (S := fun _ => False) hb).frozen (by exact h.lv i hi) (fun h => h)).trans (h.fv i hi o)), ft := (fun i hi o => ((only_below (S := fun _ => False) hb).frozen (by exact h.lt i hi) (fun h => h)).trans (h.ft i hi o)), lv := fun i hi => Nat.lt_of_lt_of_le (h.lv i hi) hb.size, lt := fun i hi => Nat.lt_of_lt_of_le (h.lt i hi) hb.size }
theorem IsR.only {w w' : World} {y : Mr} {bv : Nat → Nat} {tv : Nat → Bool} {S : Nat → Prop} (h : IsR w y bv tv) (ho : Only S w w') (s1 : ¬ S y.rb) (s2 : ¬ S y.lb) (s3 : ¬ S y.bb) (s4 : ¬ S y.ub) (s5 : ∀ j, y.bl j → ¬ S j) : IsR w' y bv tv :=
  { h with rr := h.rr.only ho s1 s2 s3 s4, vals := fun i hi o hh => ho.cell (s5 _ ⟨i, hi, Or.inl rfl⟩) (h.vals i hi o hh), tnts := fun i hi o hh => ho.cell (s5 _ ⟨i, hi, Or.inr rfl⟩) (h.tnts i hi o hh), fv := (fun i hi o => (ho.frozen (by exact h.lv i hi) (s5 _ ⟨i, hi, Or.inl rfl⟩)).trans (h.fv i hi o)), ft := (fun i hi o => (ho.frozen (by exact h.lt i hi) (s5 _ ⟨i, hi, Or.inr rfl⟩)).trans (h.ft i hi o)), lv := fun i hi => Nat.lt_of_lt_of_le (h.lv i hi) ho.size, lt := fun i hi => Nat.lt_of_lt_of_le (h.lt i hi) ho.size }
theorem only_one (w : World) (b o : Nat) (v : Value) : Only (fun j => j = b) w (w.setCell ⟨b, o, none⟩ v) := (Only.refl _ w).setCell rfl
theorem IsR.setB {w : World} {y : Mr} {bv : Nat → Nat} {tv : Nat → Bool} (h : IsR w y bv tv) {i o b : Nat} (hi : i < y.l.length) (ho : o < (rg y.l i).s) (hb : b < 256) {bv' : Nat → Nat} (he : bv' (beg y.l i + o) = b) (hn : ∀ k, k ≠ beg y.l i + o → bv' k = bv k) :
    IsR (w.setCell ⟨y.bs i, o, none⟩ (.int .u8 b)) y bv' tv := by
  have O := only_one w (y.bs i) o (.int .u8 b)
  have nb : ∀ j, j = y.bs i → y.bl j := fun j hj => ⟨i, hi, Or.inl hj⟩
  exact { h with
    rr := h.rr.only O (fun e => h.n0 (nb _ e)) (fun e => h.n1 (nb _ e)) (fun e => h.n2 (nb _ e)) (fun e => h.n3 (nb _ e))
    vals := fun j hj p hp => by
      by_cases e : y.bs j = y.bs i
      · have e' := h.db j hj i hi e
        subst e'
        rw [cell_set _ (h.vals j hj o ho) p]
        by_cases e2 : p = o
        · rw [if_pos e2, e2, he]
        · rw [if_neg e2, hn _ (by omega)]; exact h.vals j hj p hp
      · rw [O.cell e (h.vals j hj p hp)]
        rw [hn _ (apart hj hi (fun e2 => e (by rw [e2])) hp ho)]
    tnts := fun j hj p hp => O.cell (fun e => h.dd i hi j hj e.symm) (h.tnts j hj p hp)
    fv := fun j hj p => by rw [World.frozen?_setCell]; exact h.fv j hj p
    ft := fun j hj p => by rw [World.frozen?_setCell]; exact h.ft j hj p
    lv := fun j hj => by rw [World.size_setCell]; exact h.lv j hj
    lt := fun j hj => by rw [World.size_setCell]; exact h.lt j hj
    b8 := fun k => by
      by_cases e : k = beg y.l i + o
      · rw [e, he]; exact hb
      · rw [hn k e]; exact h.b8 k }
theorem IsR.setT {w : World} {y : Mr} {bv : Nat → Nat} {tv : Nat → Bool} (h : IsR w y bv tv) {i o : Nat} {b : Bool} (hi : i < y.l.length) (ho : o < (rg y.l i).s) {tv' : Nat → Bool} (he : tv' (beg y.l i + o) = b) (hn : ∀ k, k ≠ beg y.l i + o → tv' k = tv k) :
    IsR (w.setCell ⟨y.ts i, o, none⟩ (.bool b)) y bv tv' := by
  have O := only_one w (y.ts i) o (.bool b)
  have nb : ∀ j, j = y.ts i → y.bl j := fun j hj => ⟨i, hi, Or.inr hj⟩
  exact { h with
    rr := h.rr.only O (fun e => h.n0 (nb _ e)) (fun e => h.n1 (nb _ e)) (fun e => h.n2 (nb _ e)) (fun e => h.n3 (nb _ e))
    tnts := fun j hj p hp => by
      by_cases e : y.ts j = y.ts i
      · have e' := h.dt j hj i hi e
        subst e'
        rw [cell_set _ (h.tnts j hj o ho) p]
        by_cases e2 : p = o
        · rw [if_pos e2, e2, he]
        · rw [if_neg e2, hn _ (by omega)]; exact h.tnts j hj p hp
      · rw [O.cell e (h.tnts j hj p hp)]
        rw [hn _ (apart hj hi (fun e2 => e (by rw [e2])) hp ho)]
    vals := fun j hj p hp => O.cell (h.dd j hj i hi) (h.vals j hj p hp)
    fv := fun j hj p => by rw [World.frozen?_setCell]; exact h.fv j hj p
    ft := fun j hj p => by rw [World.frozen?_setCell]; exact h.ft j hj p
    lv := fun j hj => by rw [World.size_setCell]; exact h.lv j hj
    lt := fun j hj => by rw [World.size_setCell]; exact h.lt j hj }
/-- What in answers. -/
def inV (l : List Rg) (p n : Nat) : Value := match hitI l p n with
  | none => .tuple #[.int .i64 (-1), .int .i64 0]
  | some i => .tuple #[.int .i64 i, .int .i64 (p - (rg l i).f : Nat)]
theorem in_yes {l : List Rg} (hl : MayL l) {p n i : Nat} (hi : i < l.length) (h : (rg l i).has p n) : inV l p n = .tuple #[.int .i64 i, .int .i64 (p - (rg l i).f : Nat)] := by unfold inV; rw [hit_eq hl hi h]
theorem in_no {l : List Rg} {p n : Nat} (h : ∀ i < l.length, ¬ (rg l i).has p n) : inV l p n = .tuple #[.int .i64 (-1), .int .i64 0] := by
  unfold inV
  cases hh : hitI l p n with
  | none => rfl
  | some i => exact absurd (hit_some hh).2 (h i (hit_some hh).1)
set_option maxHeartbeats 1000000 in
theorem in_any {y : Mr} (hl : MayL y.l) (hwf : wfL y.l) (p n : Nat) (hp : p < 18446744073709551616) (hn : n ≤ 9223372036854775807) (w : World) (h : Rr w y) :
    Calls Tryz.prog 50 #[.pointer (some ⟨y.rb, 0, none⟩), .int .u64 p, .int .i64 n] w fun e w' => e = .returned (inV y.l p n) ∧ Below w.heap.size w w' := by
  have hl16 := hl.2.2
  have hlb : y.lb < w.heap.size := World.block_lt_of_cell? w _ (h.row 0 (by have := hl.2.1; omega)).1
  go_enter Tryz.func50, Tryz.ntmps50
  go_wp2
  go_loopw [8] (fun i wr => ∃ k : Nat, i = .int .i64 k ∧ k ≤ y.l.length ∧ (∀ j < k, ¬ (rg y.l j).has p n) ∧ Below w.heap.size w wr) (fun i _ => y.l.length - (intOf i).toNat)
  case atStart => exact ⟨0, rfl, Nat.zero_le _, fun j hj => by omega, Below.refl _ _⟩
  case round =>
    obtain ⟨k, rfl, hk, hg, hB⟩ := hrel
    have hs0 := stay hB h.h0
    by_cases hlt : k < y.l.length
    · obtain ⟨c0, c1, c2⟩ := h.row k hlt
      have c0 := stay hB c0
      have c1 := stay hB c1
      have c2 := stay hB c2
      obtain ⟨v0, v1, v2⟩ := hwf k
      obtain ⟨⟨g1, g2, g3, g4⟩, g5⟩ := (hl.1 k hlt).1
      have hyes := in_yes (p := p) (n := n) hl hlt
      have hHs : (rg y.l k).has p n ↔ (rg y.l k).f ≤ p ∧ p < (rg y.l k).f + (rg y.l k).s ∧ n ≤ (rg y.l k).f + (rg y.l k).s - p := Iff.rfl
      obtain ⟨r, hrr⟩ : ∃ r, rg y.l k = r := ⟨_, rfl⟩
      have hbs : y.lb < wr.heap.size := Nat.lt_of_lt_of_le hlb hB.size
      have hnx : ¬ r.has p n → ∀ j < k + 1, ¬ (rg y.l j).has p n := fun hh j hj => by
        rcases Nat.lt_or_ge j k with h | h
        · exact hg j h
        · obtain rfl : j = k := by omega
          rw [hrr]; exact hh
      rw [hrr] at c0 c1 c2 v0 v1 v2 g1 g2 g3 g4 g5 hyes hHs
      rw [Nat.zero_add] at c0 c1 c2
      have hB2 : Below w.heap.size w (wr.alloc (.cells #[.int .u64 r.f, .int .u64 r.s, .int .u8 r.k] 102)) := hB.alloc hB.size _
      have e1 := add64 r.f r.s (by omega)
      have i0 : (0 : Int) ≤ (k : Int) := by omega
      have i1 : (k : Int) < (y.l.length : Int) := by omega
      clear hrr
      by_cases t1 : r.f ≤ p
      · have t1' : (r.f : Int) ≤ (p : Int) := by omega
        by_cases t2 : p < r.f + r.s
        · have t2' : (p : Int) < (r.f : Int) + (r.s : Int) := by omega
          have e2 : IntKind.u64.wrap ((r.f : Int) + (r.s : Int) - (p : Int)) = (r.f : Int) + (r.s : Int) - (p : Int) := by rw [IntKind.wrap_u64]; omega
          by_cases t3 : n ≤ r.f + r.s - p
          · have t3' : (n : Int) ≤ (r.f : Int) + (r.s : Int) - (p : Int) := by omega
            have hyes := hyes (hHs.2 ⟨t1, t2, t3⟩)
            have e3 : IntKind.u64.wrap ((p : Int) - (r.f : Int)) = ((p - r.f : Nat) : Int) := by rw [IntKind.wrap_u64]; omega
            have e4 : IntKind.i64.wrap ((p - r.f : Nat) : Int) = ((p - r.f : Nat) : Int) := by rw [IntKind.wrap_i64]; omega
            go_wp2
            go_quiet (fail)
            go_wp2
            go_ret2
            exact ⟨by rw [hyes]; rfl, by first | exact hB2 | exact bd1 hB2 | exact bdN hB2 _⟩
          · have t3' : ¬ (n : Int) ≤ (r.f : Int) + (r.s : Int) - (p : Int) := by omega
            have hnx := hnx (fun hh => t3 (hHs.1 hh).2.2)
            go_wp2
            go_roundw
            case rel => exact ⟨k + 1, by go_num, by omega, hnx, by first | exact hB2 | exact bd1 hB2⟩
            case measure => first | (simp [intOf]; done) | (simp [intOf]; omega)
        · have t2' : ¬ (p : Int) < (r.f : Int) + (r.s : Int) := by omega
          have hnx := hnx (fun hh => t2 (hHs.1 hh).2.1)
          go_wp2
          go_roundw
          case rel => exact ⟨k + 1, by go_num, by omega, hnx, by first | exact hB2 | exact bd1 hB2⟩
          case measure => first | (simp [intOf]; done) | (simp [intOf]; omega)
      · have t1' : ¬ (r.f : Int) ≤ (p : Int) := by omega
        have hnx := hnx (fun hh => t1 (hHs.1 hh).1)
        go_wp2
        go_roundw
        case rel => exact ⟨k + 1, by go_num, by omega, hnx, by first | exact hB2 | exact bd1 hB2⟩
        case measure => first | (simp [intOf]; done) | (simp [intOf]; omega)
    · obtain rfl : k = y.l.length := by omega
      have hno := in_no hg
      go_wp2
      go_ret2
      exact ⟨by rw [hno]; rfl, hB⟩
end Go.Proofs.YtfaacmcnefbgcaaGreatDoor.m4
