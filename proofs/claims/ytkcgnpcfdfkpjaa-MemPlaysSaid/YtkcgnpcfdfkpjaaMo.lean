/- Contracts of Mem.ofWord, Load, Store, Fetch, Set, Bytes, of a memory. -/
import Derived.Test.YtkcgnpcfdfkpjaaSp
namespace Go.Proofs.Ytkcgnpcfdfkpjaa
open Go.ChangeShapes Go.WideShapes Go.ChangeAt Go.RowKit
set_option linter.unusedVariables false
/-- A memory, its bytes and taints. -/
structure IsM (w : World) (x : Mm) (bv : Nat → Nat) (tv : Nat → Bool) : Prop where
  ar : Ar w x
  vals : ∀ k < tot x.l, w.cell? ⟨x.vb, k, none⟩ = some (.int .u8 (bv k : Nat))
  tnts : ∀ k < tot x.l, w.cell? ⟨x.tb, k, none⟩ = some (.bool (tv k))
  fv : ∀ k, w.frozen? ⟨x.vb, k, none⟩ = false
  ft : ∀ k, w.frozen? ⟨x.tb, k, none⟩ = false
  lv : x.vb < w.heap.size
  lt : x.tb < w.heap.size
  ne : x.vb ≠ x.tb
  m1 : x.mb ≠ x.vb
  m2 : x.mb ≠ x.tb
  a1 : x.ab ≠ x.vb
  a2 : x.ab ≠ x.tb
  may : MayL x.l
  wf : wfL x.l
  b8 : ∀ k, bv k < 256
theorem IsM.of {w w' : World} {x : Mm} {bv : Nat → Nat} {tv : Nat → Bool} (h : IsM w x bv tv) (hb : Below w.heap.size w w') : IsM w' x bv tv :=
  { h with ar := h.ar.of hb, vals := fun k hk => stay hb (h.vals k hk), tnts := fun k hk => stay hb (h.tnts k hk), fv := (fun k => ((only_below (S := fun _ => False) hb).frozen (by exact h.lv) (fun h => h)).trans (h.fv k)), ft := (fun k => ((only_below (S := fun _ => False) hb).frozen (by exact h.lt) (fun h => h)).trans (h.ft k)), lv := Nat.lt_of_lt_of_le h.lv hb.size, lt := Nat.lt_of_lt_of_le h.lt hb.size }
theorem IsM.only {w w' : World} {x : Mm} {bv : Nat → Nat} {tv : Nat → Bool} {S : Nat → Prop} (h : IsM w x bv tv) (ho : Only S w w') (h1 : ¬ S x.mb) (h2 : ¬ S x.ab) (h3 : ¬ S x.vb) (h4 : ¬ S x.tb) : IsM w' x bv tv :=
  { h with ar := ⟨ho.cell h1 h.ar.1, fun i hi => ⟨⟨ho.cell h2 (h.ar.2 i hi).1.1, ho.cell h2 (h.ar.2 i hi).1.2.1, ho.cell h2 (h.ar.2 i hi).1.2.2⟩, ho.cell h2 (h.ar.2 i hi).2.1, ho.cell h2 (h.ar.2 i hi).2.2⟩⟩, vals := fun k hk => ho.cell h3 (h.vals k hk), tnts := fun k hk => ho.cell h4 (h.tnts k hk), fv := (fun k => (ho.frozen (by exact h.lv) h3).trans (h.fv k)), ft := (fun k => (ho.frozen (by exact h.lt) h4).trans (h.ft k)), lv := Nat.lt_of_lt_of_le h.lv ho.size, lt := Nat.lt_of_lt_of_le h.lt ho.size }
theorem upd_at {α : Type} {q n k : Nat} {f g : Nat → α} {c : α → Value} {o : Option Value} (h : ¬ (q ≤ k ∧ k < q + n) → o = some (c (g k))) : (if q ≤ k ∧ k < q + n then some (c (f (k - q))) else o) = some (c (upd g q n f k)) := by
  unfold upd
  by_cases e : q ≤ k ∧ k < q + n
  · rw [if_pos e, if_pos e]
  · rw [if_neg e, if_neg e]; exact h e
theorem upd_b8 {q n : Nat} {f g : Nat → Nat} (hg : ∀ k, g k < 256) (hf : ∀ k, f k < 256) (k : Nat) : upd g q n f k < 256 := by
  unfold upd
  by_cases e : q ≤ k ∧ k < q + n
  · rw [if_pos e]; exact hf _
  · rw [if_neg e]; exact hg k
theorem IsM.laid {w w' : World} {x : Mm} {bv : Nat → Nat} {tv : Nat → Bool} {q n : Nat} {f : Nat → Nat} {t : Bool} (h : IsM w x bv tv) (hL : Laid x.vb x.tb q n f t w w') (hf : ∀ k, f k < 256) :
    IsM w' x (upd bv q n f) (upd tv q n fun _ => t) :=
  { h with ar := ⟨hL.only.cell (by simp only; exact not_or.2 ⟨h.m1, h.m2⟩) h.ar.1, fun i hi => ⟨⟨hL.only.cell (by simp only; exact not_or.2 ⟨h.a1, h.a2⟩) (h.ar.2 i hi).1.1, hL.only.cell (by simp only; exact not_or.2 ⟨h.a1, h.a2⟩) (h.ar.2 i hi).1.2.1, hL.only.cell (by simp only; exact not_or.2 ⟨h.a1, h.a2⟩) (h.ar.2 i hi).1.2.2⟩, hL.only.cell (by simp only; exact not_or.2 ⟨h.a1, h.a2⟩) (h.ar.2 i hi).2.1, hL.only.cell (by simp only; exact not_or.2 ⟨h.a1, h.a2⟩) (h.ar.2 i hi).2.2⟩⟩, vals := (fun k hk => (hL.vals k).trans (upd_at (f := f) (g := bv) (c := fun n => Value.int .u8 (n : Nat)) (fun hh => by rw [h.vals k hk]))), tnts := (fun k hk => (hL.tnts k).trans (upd_at (f := fun _ => t) (g := tv) (c := Value.bool) (fun hh => by rw [h.tnts k hk]))), fv := (fun k => (hL.fv k).trans (h.fv k)), ft := (fun k => (hL.ft k).trans (h.ft k)), lv := Nat.lt_of_lt_of_le h.lv hL.only.size, lt := Nat.lt_of_lt_of_le h.lt hL.only.size, b8 := (fun k => upd_b8 h.b8 hf k) }
theorem may_in {l : List Rg} (h : MayL l) : inL l := fun i hi => by have := (h.1 i hi).1.2; omega
theorem may_sz {l : List Rg} (h : MayL l) : ∀ j < l.length, (rg l j).s ≤ 1048576 := fun j hj => (h.1 j hj).1.1.2.2.2
/-- What find answers: the piece from q on, or an error. -/
def pcV (x : Mm) (n : Nat) (e : Int) : Option Nat → Value
  | some q => .tuple #[.agg #[.slice (some ⟨x.vb, q, none⟩) n n, .slice (some ⟨x.tb, q, none⟩) n n], .int .i64 0]
  | none => .tuple #[.agg #[.slice none 0 0, .slice none 0 0], .int .i64 e]
def fdO (l : List Rg) (p n : Nat) (ok : Nat → Bool) : Option Nat := match hitI l p n with
  | none => none
  | some i => if ok (rg l i).k = true then some (pos l i p n) else none
theorem fdO_some {l : List Rg} {p n q : Nat} {ok : Nat → Bool} (h : fdO l p n ok = some q) : ∃ i, hitI l p n = some i ∧ q = pos l i p n ∧ ok (rg l i).k = true := by
  unfold fdO at h
  split at h
  · cases h
  · rename_i i hi
    split at h
    · rename_i ho
      exact ⟨i, hi, by injection h with h; exact h.symm, ho⟩
    · cases h
theorem fdO_tot {l : List Rg} {p n q : Nat} {ok : Nat → Bool} (h : fdO l p n ok = some q) : q + n ≤ tot l := by
  obtain ⟨i, hi, rfl, _⟩ := fdO_some h
  exact pos_tot hi
theorem fd_every {x : Mm} {bv : Nat → Nat} {tv : Nat → Bool} (p n : Nat) (hp : p < 18446744073709551616) (hn : n ≤ 9223372036854775807) (w : World) (h : IsM w x bv tv) :
    Calls Try.prog 30 #[.pointer (some ⟨x.mb, 0, none⟩), .int .u64 p, .int .i64 n, .func (.func 31) #[] #[]] w fun e w' => e = .returned (pcV x n 40 (fdO x.l p n (fun _ => true))) ∧ Below w.heap.size w w' := by
  cases hi : hitI x.l p n with
  | none =>
    have := find_every x h.wf (may_in h.may) h.may.2.2 (may_sz h.may) p n hp hn 0 0 (hit_isnt hi) _ (every_any _) w h.ar
    refine this.mono fun e w' ⟨h1, h2⟩ => ⟨?_, h2⟩
    rw [h1]; unfold fdO fndV; rw [hi, if_neg (by omega)]; rfl
  | some i =>
    have := find_every x h.wf (may_in h.may) h.may.2.2 (may_sz h.may) p n hp hn 1 i (hit_is h.may hi) _ (every_any _) w h.ar
    refine this.mono fun e w' ⟨h1, h2⟩ => ⟨?_, h2⟩
    rw [h1]; unfold fdO fndV; rw [hi]
    by_cases ho : (fun _ => true) (rg x.l i).k = true
    · rw [if_pos ⟨rfl, ho⟩]; show _ = Ending.returned (pcV x n 40 (if _ = true then _ else none)); rw [if_pos ho]; rfl
    · first | exact absurd rfl ho | (rw [if_neg (fun hh => ho hh.2)]; show _ = Ending.returned (pcV x n 40 (if _ = true then _ else none)); rw [if_neg ho]; rfl)
theorem fd_readable {x : Mm} {bv : Nat → Nat} {tv : Nat → Bool} (p n : Nat) (hp : p < 18446744073709551616) (hn : n ≤ 9223372036854775807) (w : World) (h : IsM w x bv tv) :
    Calls Try.prog 30 #[.pointer (some ⟨x.mb, 0, none⟩), .int .u64 p, .int .i64 n, .func (.func 36) #[] #[]] w fun e w' => e = .returned (pcV x n 40 (fdO x.l p n (fun k => (k : Int) != 1))) ∧ Below w.heap.size w w' := by
  cases hi : hitI x.l p n with
  | none =>
    have := find_readable x h.wf (may_in h.may) h.may.2.2 (may_sz h.may) p n hp hn 0 0 (hit_isnt hi) _ (readable_any _) w h.ar
    refine this.mono fun e w' ⟨h1, h2⟩ => ⟨?_, h2⟩
    rw [h1]; unfold fdO fndV; rw [hi, if_neg (by omega)]; rfl
  | some i =>
    have := find_readable x h.wf (may_in h.may) h.may.2.2 (may_sz h.may) p n hp hn 1 i (hit_is h.may hi) _ (readable_any _) w h.ar
    refine this.mono fun e w' ⟨h1, h2⟩ => ⟨?_, h2⟩
    rw [h1]; unfold fdO fndV; rw [hi]
    by_cases ho : (fun k => (k : Int) != 1) (rg x.l i).k = true
    · rw [if_pos ⟨rfl, ho⟩]; show _ = Ending.returned (pcV x n 40 (if _ = true then _ else none)); rw [if_pos ho]; rfl
    · first | exact absurd rfl ho | (rw [if_neg (fun hh => ho hh.2)]; show _ = Ending.returned (pcV x n 40 (if _ = true then _ else none)); rw [if_neg ho]; rfl)
theorem fd_writable {x : Mm} {bv : Nat → Nat} {tv : Nat → Bool} (p n : Nat) (hp : p < 18446744073709551616) (hn : n ≤ 9223372036854775807) (w : World) (h : IsM w x bv tv) :
    Calls Try.prog 30 #[.pointer (some ⟨x.mb, 0, none⟩), .int .u64 p, .int .i64 n, .func (.func 34) #[] #[]] w fun e w' => e = .returned (pcV x n 40 (fdO x.l p n (fun k => (k : Int) == 3 || (k : Int) == 4))) ∧ Below w.heap.size w w' := by
  cases hi : hitI x.l p n with
  | none =>
    have := find_writable x h.wf (may_in h.may) h.may.2.2 (may_sz h.may) p n hp hn 0 0 (hit_isnt hi) _ (writable_any _) w h.ar
    refine this.mono fun e w' ⟨h1, h2⟩ => ⟨?_, h2⟩
    rw [h1]; unfold fdO fndV; rw [hi, if_neg (by omega)]; rfl
  | some i =>
    have := find_writable x h.wf (may_in h.may) h.may.2.2 (may_sz h.may) p n hp hn 1 i (hit_is h.may hi) _ (writable_any _) w h.ar
    refine this.mono fun e w' ⟨h1, h2⟩ => ⟨?_, h2⟩
    rw [h1]; unfold fdO fndV; rw [hi]
    by_cases ho : (fun k => (k : Int) == 3 || (k : Int) == 4) (rg x.l i).k = true
    · rw [if_pos ⟨rfl, ho⟩]; show _ = Ending.returned (pcV x n 40 (if _ = true then _ else none)); rw [if_pos ho]; rfl
    · first | exact absurd rfl ho | (rw [if_neg (fun hh => ho hh.2)]; show _ = Ending.returned (pcV x n 40 (if _ = true then _ else none)); rw [if_neg ho]; rfl)
theorem fd_fetchable {x : Mm} {bv : Nat → Nat} {tv : Nat → Bool} (p n : Nat) (hp : p < 18446744073709551616) (hn : n ≤ 9223372036854775807) (w : World) (h : IsM w x bv tv) :
    Calls Try.prog 30 #[.pointer (some ⟨x.mb, 0, none⟩), .int .u64 p, .int .i64 n, .func (.func 40) #[] #[]] w fun e w' => e = .returned (pcV x n 40 (fdO x.l p n (fun k => (k : Int) == 1))) ∧ Below w.heap.size w w' := by
  cases hi : hitI x.l p n with
  | none =>
    have := find_fetchable x h.wf (may_in h.may) h.may.2.2 (may_sz h.may) p n hp hn 0 0 (hit_isnt hi) _ (fetchable_any _) w h.ar
    refine this.mono fun e w' ⟨h1, h2⟩ => ⟨?_, h2⟩
    rw [h1]; unfold fdO fndV; rw [hi, if_neg (by omega)]; rfl
  | some i =>
    have := find_fetchable x h.wf (may_in h.may) h.may.2.2 (may_sz h.may) p n hp hn 1 i (hit_is h.may hi) _ (fetchable_any _) w h.ar
    refine this.mono fun e w' ⟨h1, h2⟩ => ⟨?_, h2⟩
    rw [h1]; unfold fdO fndV; rw [hi]
    by_cases ho : (fun k => (k : Int) == 1) (rg x.l i).k = true
    · rw [if_pos ⟨rfl, ho⟩]; show _ = Ending.returned (pcV x n 40 (if _ = true then _ else none)); rw [if_pos ho]; rfl
    · first | exact absurd rfl ho | (rw [if_neg (fun hh => ho hh.2)]; show _ = Ending.returned (pcV x n 40 (if _ = true then _ else none)); rw [if_neg ho]; rfl)
end Go.Proofs.Ytkcgnpcfdfkpjaa
