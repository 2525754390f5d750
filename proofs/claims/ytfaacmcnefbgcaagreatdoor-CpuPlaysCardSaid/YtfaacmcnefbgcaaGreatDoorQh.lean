/- Contract of Mem.ofWord. -/
import Derived.Test.YtfaacmcnefbgcaaGreatDoorQg
import Derived.OwnWalk
import Derived.Deep.RegionWith
namespace Go.Proofs.YtfaacmcnefbgcaaGreatDoor.m4
open Go.ChangeShapes Go.WideShapes Go.ChangeAt Go.RowKit
set_option linter.unusedVariables false
theorem res_of {fn : Func} {p q : Tmp} (h : fn.results = #[.cell p 112, .tmp q]) (tmps : Array Value) (w : World) (g : Nat) (c0 c1 d : Value) (hp : tmps.getD p undef = .pointer (some ⟨g, 0, none⟩)) (hq : tmps.getD q undef = d)
    (h0 : w.cell? ⟨g, 0, none⟩ = some c0) (h1 : w.cell? ⟨g, 1, none⟩ = some c1) :
    (results fn tmps).run Tryz.prog w = .ok (.tuple #[.agg #[c0, c1], d]) w := by
  have hp' : tmps[p]?.getD undef = .pointer (some ⟨g, 0, none⟩) := by simpa using hp
  have hq' : tmps[q]?.getD undef = d := by simpa using hq
  simp [results, h, hp', hq', go_sem, h0, h1]
def ofO (l : List Rg) (p : Nat) (n : Int) (ok : Nat → Bool) : Option Nat := if n < 1 ∨ 8 < n then none else fdO l p n.toNat ok
theorem of_nil_readable (p : Nat) (n : Int) (w : World) : Calls Tryz.prog 136 #[.pointer none, .int .u64 p, .int .i64 n, .func (.func 137) #[] #[]] w fun e w' => e = .returned (.tuple #[.agg #[.slice none 0 0, .slice none 0 0], .int .i64 1]) ∧ Below w.heap.size w w' := by
  go_enter Tryz.func136, Tryz.ntmps136
  go_wp2
  refine bodyPost_ret (res_of rfl _ _ w.heap.size _ _ _ rfl rfl (nwc _ _ _ _) (nwc _ _ _ _)) rfl ?_
  exact ⟨rfl, aBelow (Below.refl _ _) _⟩
theorem of_bad_readable (m : Nat) (p : Nat) (n : Int) (hn : n < 1 ∨ 8 < n) (w : World) : Calls Tryz.prog 136 #[.pointer (some ⟨m, 0, none⟩), .int .u64 p, .int .i64 n, .func (.func 137) #[] #[]] w fun e w' => e = .returned (.tuple #[.agg #[.slice none 0 0, .slice none 0 0], .int .i64 2]) ∧ Below w.heap.size w w' := by
  by_cases h1 : n < 1
  · clear hn
    go_enter Tryz.func136, Tryz.ntmps136
    go_wp2
    refine bodyPost_ret (res_of rfl _ _ w.heap.size _ _ _ rfl rfl (nwc _ _ _ _) (nwc _ _ _ _)) rfl ?_
    exact ⟨rfl, aBelow (Below.refl _ _) _⟩
  · have h2 : 8 < n := by omega
    clear hn
    go_enter Tryz.func136, Tryz.ntmps136
    go_wp2
    refine bodyPost_ret (res_of rfl _ _ w.heap.size _ _ _ rfl rfl (nwc _ _ _ _) (nwc _ _ _ _)) rfl ?_
    exact ⟨rfl, aBelow (Below.refl _ _) _⟩
set_option maxHeartbeats 1000000 in
theorem of_readable {x : Mm} {bv : Nat → Nat} {tv : Nat → Bool} (p n : Nat) (hp : p < 18446744073709551616) (h1 : 1 ≤ n) (h8 : n ≤ 8) (w : World) (h : IsM w x bv tv) :
    Calls Tryz.prog 136 #[.pointer (some ⟨x.mb, 0, none⟩), .int .u64 p, .int .i64 n, .func (.func 137) #[] #[]] w fun e w' => e = .returned (pcV x n 40 (fdO x.l p n (fun k => (k : Int) != 1))) ∧ Below w.heap.size w w' := by
  have hB : Below w.heap.size w (w.alloc (.cells #[.slice none 0 0, .slice none 0 0] 112)) := aBelow (Below.refl _ _) _
  have hF := fd_readable p n hp (by omega) _ (h.of hB)
  have i1 : (1 : Int) ≤ (n : Int) := by omega
  have i8 : (n : Int) ≤ 8 := by omega
  obtain ⟨o, ho⟩ : ∃ o, fdO x.l p n (fun k => (k : Int) != 1) = o := ⟨_, rfl⟩
  rw [ho] at hF ⊢
  cases o with
  | none =>
    simp only [pcV] at hF ⊢
    go_enter Tryz.func136, Tryz.ntmps136
    go_wp2_with (go_at_call 43; (with_reducible refine hF.mono ?_); (rintro e w1 ⟨rfl, hb1⟩); have c0 : w1.cell? ⟨w.heap.size, 0, none⟩ = some (.slice none 0 0) := (stay hb1 (nwc _ _ _ _)); have c1 : w1.cell? ⟨w.heap.size, 1, none⟩ = some (.slice none 0 0) := (stay hb1 (nwc _ _ _ _)); have z0 : ∀ k, w1.frozen? ⟨w.heap.size, k, none⟩ = false := (fun k => (rowG_b (rowG_new _ _ _) hb1).2.1 k); have z00 := z0 0; have z01 := z0 1)
    refine bodyPost_ret (res_of rfl _ _ w.heap.size (.slice none 0 0) (.slice none 0 0) _ rfl rfl (by go_simp) (by go_simp)) rfl ?_
    refine ⟨rfl, ?_⟩
    have hb2 := below_trans' hB (Nat.le_refl _) hb1
    repeat (first | (with_reducible exact hb2) | (with_reducible refine sBelow ?_ (Nat.le_refl _)))
  | some q =>
    simp only [pcV] at hF ⊢
    go_enter Tryz.func136, Tryz.ntmps136
    go_wp2_with (go_at_call 43; (with_reducible refine hF.mono ?_); (rintro e w1 ⟨rfl, hb1⟩); have c0 : w1.cell? ⟨w.heap.size, 0, none⟩ = some (.slice none 0 0) := (stay hb1 (nwc _ _ _ _)); have c1 : w1.cell? ⟨w.heap.size, 1, none⟩ = some (.slice none 0 0) := (stay hb1 (nwc _ _ _ _)); have z0 : ∀ k, w1.frozen? ⟨w.heap.size, k, none⟩ = false := (fun k => (rowG_b (rowG_new _ _ _) hb1).2.1 k); have z00 := z0 0; have z01 := z0 1)
    refine bodyPost_ret (res_of rfl _ _ w.heap.size (.slice (some ⟨x.vb, q, none⟩) n n) (.slice (some ⟨x.tb, q, none⟩) n n) _ rfl rfl (by go_simp) (by go_simp)) rfl ?_
    refine ⟨rfl, ?_⟩
    have hb2 := below_trans' hB (Nat.le_refl _) hb1
    repeat (first | (with_reducible exact hb2) | (with_reducible refine sBelow ?_ (Nat.le_refl _)))
theorem of_nil_writable (p : Nat) (n : Int) (w : World) : Calls Tryz.prog 136 #[.pointer none, .int .u64 p, .int .i64 n, .func (.func 139) #[] #[]] w fun e w' => e = .returned (.tuple #[.agg #[.slice none 0 0, .slice none 0 0], .int .i64 1]) ∧ Below w.heap.size w w' := by
  go_enter Tryz.func136, Tryz.ntmps136
  go_wp2
  refine bodyPost_ret (res_of rfl _ _ w.heap.size _ _ _ rfl rfl (nwc _ _ _ _) (nwc _ _ _ _)) rfl ?_
  exact ⟨rfl, aBelow (Below.refl _ _) _⟩
theorem of_bad_writable (m : Nat) (p : Nat) (n : Int) (hn : n < 1 ∨ 8 < n) (w : World) : Calls Tryz.prog 136 #[.pointer (some ⟨m, 0, none⟩), .int .u64 p, .int .i64 n, .func (.func 139) #[] #[]] w fun e w' => e = .returned (.tuple #[.agg #[.slice none 0 0, .slice none 0 0], .int .i64 2]) ∧ Below w.heap.size w w' := by
  by_cases h1 : n < 1
  · clear hn
    go_enter Tryz.func136, Tryz.ntmps136
    go_wp2
    refine bodyPost_ret (res_of rfl _ _ w.heap.size _ _ _ rfl rfl (nwc _ _ _ _) (nwc _ _ _ _)) rfl ?_
    exact ⟨rfl, aBelow (Below.refl _ _) _⟩
  · have h2 : 8 < n := by omega
    clear hn
    go_enter Tryz.func136, Tryz.ntmps136
    go_wp2
    refine bodyPost_ret (res_of rfl _ _ w.heap.size _ _ _ rfl rfl (nwc _ _ _ _) (nwc _ _ _ _)) rfl ?_
    exact ⟨rfl, aBelow (Below.refl _ _) _⟩
set_option maxHeartbeats 1000000 in
theorem of_writable {x : Mm} {bv : Nat → Nat} {tv : Nat → Bool} (p n : Nat) (hp : p < 18446744073709551616) (h1 : 1 ≤ n) (h8 : n ≤ 8) (w : World) (h : IsM w x bv tv) :
    Calls Tryz.prog 136 #[.pointer (some ⟨x.mb, 0, none⟩), .int .u64 p, .int .i64 n, .func (.func 139) #[] #[]] w fun e w' => e = .returned (pcV x n 40 (fdO x.l p n (fun k => (k : Int) == 3 || (k : Int) == 4))) ∧ Below w.heap.size w w' := by
  have hB : Below w.heap.size w (w.alloc (.cells #[.slice none 0 0, .slice none 0 0] 112)) := aBelow (Below.refl _ _) _
  have hF := fd_writable p n hp (by omega) _ (h.of hB)
  have i1 : (1 : Int) ≤ (n : Int) := by omega
  have i8 : (n : Int) ≤ 8 := by omega
  obtain ⟨o, ho⟩ : ∃ o, fdO x.l p n (fun k => (k : Int) == 3 || (k : Int) == 4) = o := ⟨_, rfl⟩
  rw [ho] at hF ⊢
  cases o with
  | none =>
    simp only [pcV] at hF ⊢
    go_enter Tryz.func136, Tryz.ntmps136
    go_wp2_with (go_at_call 43; (with_reducible refine hF.mono ?_); (rintro e w1 ⟨rfl, hb1⟩); have c0 : w1.cell? ⟨w.heap.size, 0, none⟩ = some (.slice none 0 0) := (stay hb1 (nwc _ _ _ _)); have c1 : w1.cell? ⟨w.heap.size, 1, none⟩ = some (.slice none 0 0) := (stay hb1 (nwc _ _ _ _)); have z0 : ∀ k, w1.frozen? ⟨w.heap.size, k, none⟩ = false := (fun k => (rowG_b (rowG_new _ _ _) hb1).2.1 k); have z00 := z0 0; have z01 := z0 1)
    refine bodyPost_ret (res_of rfl _ _ w.heap.size (.slice none 0 0) (.slice none 0 0) _ rfl rfl (by go_simp) (by go_simp)) rfl ?_
    refine ⟨rfl, ?_⟩
    have hb2 := below_trans' hB (Nat.le_refl _) hb1
    repeat (first | (with_reducible exact hb2) | (with_reducible refine sBelow ?_ (Nat.le_refl _)))
  | some q =>
    simp only [pcV] at hF ⊢
    go_enter Tryz.func136, Tryz.ntmps136
    go_wp2_with (go_at_call 43; (with_reducible refine hF.mono ?_); (rintro e w1 ⟨rfl, hb1⟩); have c0 : w1.cell? ⟨w.heap.size, 0, none⟩ = some (.slice none 0 0) := (stay hb1 (nwc _ _ _ _)); have c1 : w1.cell? ⟨w.heap.size, 1, none⟩ = some (.slice none 0 0) := (stay hb1 (nwc _ _ _ _)); have z0 : ∀ k, w1.frozen? ⟨w.heap.size, k, none⟩ = false := (fun k => (rowG_b (rowG_new _ _ _) hb1).2.1 k); have z00 := z0 0; have z01 := z0 1)
    refine bodyPost_ret (res_of rfl _ _ w.heap.size (.slice (some ⟨x.vb, q, none⟩) n n) (.slice (some ⟨x.tb, q, none⟩) n n) _ rfl rfl (by go_simp) (by go_simp)) rfl ?_
    refine ⟨rfl, ?_⟩
    have hb2 := below_trans' hB (Nat.le_refl _) hb1
    repeat (first | (with_reducible exact hb2) | (with_reducible refine sBelow ?_ (Nat.le_refl _)))
end Go.Proofs.YtfaacmcnefbgcaaGreatDoor.m4

/- Contracts of Mem.Load, Store, Set, Fetch. -/
namespace Go.Proofs.YtfaacmcnefbgcaaGreatDoor.m4
open Go.ChangeShapes Go.WideShapes Go.ChangeAt Go.RowKit
set_option linter.unusedVariables false
theorem conv_at {x : Mm} {bv : Nat → Nat} {tv : Nat → Bool} {w : World} (h : IsM w x bv tv) (q n : Nat) (hq : q + n ≤ tot x.l) :
    (convert 65 9 (.slice (some ⟨x.vb, q, none⟩) n n)).run Tryz.prog w = .ok (.string (strOfNums (numsAt bv q n))) w := by
  refine run_convert_bytes_arg (P := Tryz.prog) _ 65 5 Tryz.underlying65 Tryz.underlying5 x.vb q n n (numsAt bv q n) (numsAt_length _ _ _) ?_ 9 Tryz.underlying9
  intro i hi
  rw [numsAt_getD bv q n i hi]
  exact h.vals _ (by omega)
theorem contains_at {x : Mm} {bv : Nat → Nat} {tv : Nat → Bool} {w : World} (h : IsM w x bv tv) (q n : Nat) (hn : n ≤ 1048576) (hq : q + n ≤ tot x.l) :
    Calls Tryz.prog 138 #[.slice (some ⟨x.tb, q, none⟩) n n, .bool true] w fun e w' => e = .returned (.bool (ldt tv q n)) ∧ w = w' :=
  (contains_any x.tb q n n tv (by omega) w (fun k hk => h.tnts _ (by omega)) h.lt).mono fun e w' ⟨⟨r, he, hr⟩, hw⟩ => ⟨by rw [he, Bool.eq_iff_iff.2 (hr.trans ldt_iff.symm)], hw⟩
theorem ldF_bad {l : List Rg} {bv : Nat → Nat} {tv : Nat → Bool} {p : Nat} {n : Int} (h : n < 1 ∨ 8 < n) : ldF l bv tv p n = (0, false, 2) := by unfold ldF; rw [if_pos h]
theorem ldF_none {l : List Rg} {bv : Nat → Nat} {tv : Nat → Bool} {p n : Nat} (h1 : 1 ≤ n) (h8 : n ≤ 8) (h : fdO l p n (fun k => (k : Int) != 1) = none) : ldF l bv tv p (n : Int) = (0, false, 40) := by
  unfold ldF; rw [if_neg (by omega), Int.toNat_natCast]
  unfold fdO at h
  split
  · rfl
  · rename_i i hi
    rw [hi] at h
    by_cases hk : (rg l i).k = 1
    · rw [if_pos hk]
    · exfalso
      simp only at h
      rw [if_pos (by simp; omega)] at h
      cases h
theorem ldF_some {l : List Rg} {bv : Nat → Nat} {tv : Nat → Bool} {p n q : Nat} (h1 : 1 ≤ n) (h8 : n ≤ 8) (h : fdO l p n (fun k => (k : Int) != 1) = some q) : ldF l bv tv p (n : Int) = (ldv bv q n, ldt tv q n, 0) := by
  obtain ⟨i, hi, rfl, hk⟩ := fdO_some h
  unfold ldF; rw [if_neg (by omega), Int.toNat_natCast, hi]
  simp only
  rw [if_neg (by intro e; rw [e] at hk; simp at hk)]
theorem load_nil (p : Nat) (n : Int) (w : World) : Calls Tryz.prog 121 #[.pointer none, .int .u64 p, .int .i64 n] w fun e w' => e = .returned (.tuple #[.int .u64 0, .bool false, .int .i64 1]) ∧ Below w.heap.size w w' := by
  have hF := of_nil_readable p n
  go_enter Tryz.func121, Tryz.ntmps121
  go_wp2_with (go_at_call 136; (with_reducible refine (hF _).mono ?_); (rintro e w1 ⟨rfl, hb1⟩))
  go_ret3
  exact ⟨rfl, aBelow hb1 _⟩
set_option maxHeartbeats 1000000 in
theorem load_any {x : Mm} {bv : Nat → Nat} {tv : Nat → Bool} (p : Nat) (n : Int) (hp : p < 18446744073709551616) (w : World) (h : IsM w x bv tv) :
    Calls Tryz.prog 121 #[.pointer (some ⟨x.mb, 0, none⟩), .int .u64 p, .int .i64 n] w fun e w' => e = .returned (.tuple #[.int .u64 ((ldF x.l bv tv p n).1 : Nat), .bool (ldF x.l bv tv p n).2.1, .int .i64 (ldF x.l bv tv p n).2.2]) ∧ Below w.heap.size w w' := by
  by_cases hn : n < 1 ∨ 8 < n
  · rw [ldF_bad hn]
    have hF := of_bad_readable x.mb p n hn
    clear hn
    go_enter Tryz.func121, Tryz.ntmps121
    go_wp2_with (go_at_call 136; (with_reducible refine (hF _).mono ?_); (rintro e w1 ⟨rfl, hb1⟩))
    go_ret3
    exact ⟨rfl, aBelow hb1 _⟩
  · obtain ⟨m, rfl⟩ : ∃ m : Nat, n = m := ⟨n.toNat, by omega⟩
    have h1 : 1 ≤ m := by omega
    have h8 : m ≤ 8 := by omega
    clear hn
    have hF := of_readable p m hp h1 h8 w h
    cases ho : fdO x.l p m (fun k => (k : Int) != 1) with
    | none =>
      rw [ldF_none h1 h8 ho]
      rw [ho] at hF
      simp only [pcV] at hF
      go_enter Tryz.func121, Tryz.ntmps121
      go_wp2_with (go_at_call 136; (with_reducible refine hF.mono ?_); (rintro e w1 ⟨rfl, hb1⟩))
      go_ret3
      exact ⟨rfl, aBelow hb1 _⟩
    | some q =>
      rw [ldF_some h1 h8 ho]
      have hq := fdO_tot ho
      rw [ho] at hF
      simp only [pcV] at hF
      have hsz : (strOfNums (numsAt bv q m)).size = m := by rw [strOfNums_size, numsAt_length]
      have hW := word_any (strOfNums (numsAt bv q m)) (by omega) (by omega)
      rw [wordv_nums h.b8] at hW
      obtain ⟨ss, hss⟩ : ∃ ss, strOfNums (numsAt bv q m) = ss := ⟨_, rfl⟩
      rw [hss] at hW
      go_enter Tryz.func121, Tryz.ntmps121
      go_wp2_with (first | (go_at_call 136; (with_reducible refine hF.mono ?_); (rintro e w1 ⟨rfl, hb1⟩); have hI := (h.of hb1).of (aBelow (Below.refl _ _) (.cells #[.slice (some ⟨x.vb, q, none⟩) m m, .slice (some ⟨x.tb, q, none⟩) m m] 112)); have hcv := conv_at hI q m hq; rw [hss] at hcv; have hct := contains_at hI q m (by omega) hq) | (go_at_call 89; (with_reducible refine (hW _).mono ?_); (rintro e w2 ⟨rfl, rfl⟩)) | (go_at_call 138; (with_reducible refine hct.mono ?_); (rintro e w2 ⟨rfl, rfl⟩)))
      go_ret3
      exact ⟨rfl, aBelow hb1 _⟩
theorem upd_congr {α : Type} {g : Nat → α} {q n : Nat} {f f' : Nat → α} (h : ∀ k < n, f k = f' k) : upd g q n f = upd g q n f' := by
  funext k
  unfold upd
  by_cases e : q ≤ k ∧ k < q + n
  · rw [if_pos e, if_pos e]; exact h _ (by omega)
  · rw [if_neg e, if_neg e]
theorem wb_lt (v k : Nat) : wb v k < 256 := Nat.mod_lt _ (by omega)
theorem bl_size (v n : Nat) (h8 : n ≤ 8) : (strOfNums (bl v n)).size = n := by rw [strOfNums_size, bl, List.length_take]; simp; omega
theorem bl_at (v n k : Nat) (hv : v < 18446744073709551616) (h8 : n ≤ 8) (hk : k < n) : bAt (strOfNums (bl v n)) k = wb v k := by
  unfold bAt wb
  rw [strOfNums_data, List.getD_eq_getElem?_getD, List.getElem?_map, bl, List.getElem?_take, if_pos hk]
  have h : k = 0 ∨ k = 1 ∨ k = 2 ∨ k = 3 ∨ k = 4 ∨ k = 5 ∨ k = 6 ∨ k = 7 := by omega
  rcases h with rfl | rfl | rfl | rfl | rfl | rfl | rfl | rfl <;> simp only [List.getElem?_cons_zero, List.getElem?_cons_succ, Option.map_some, Option.getD_some] <;> rw [UInt8.toNat_ofNat'] <;> omega
theorem stO_none {l : List Rg} {p n : Nat} (h1 : 1 ≤ n) (h8 : n ≤ 8) (h : fdO l p n (fun k => (k : Int) == 3 || (k : Int) == 4) = none) : stO l p (n : Int) = none := by
  unfold stO; rw [if_neg (by omega), Int.toNat_natCast]
  unfold fdO at h
  split
  · rfl
  · rename_i i hi
    rw [hi] at h
    by_cases hk : (rg l i).k = 3 ∨ (rg l i).k = 4
    · exfalso
      simp only at h
      rw [if_pos (by simp; omega)] at h
      cases h
    · rw [if_neg hk]
theorem stO_some {l : List Rg} {p n q : Nat} (h1 : 1 ≤ n) (h8 : n ≤ 8) (h : fdO l p n (fun k => (k : Int) == 3 || (k : Int) == 4) = some q) : stO l p (n : Int) = some q := by
  obtain ⟨i, hi, rfl, hk⟩ := fdO_some h
  unfold stO; rw [if_neg (by omega), Int.toNat_natCast, hi]
  simp only
  rw [if_pos (by simp at hk; omega)]
/-- What a write leaves. -/
def Wrt (x : Mm) (bv : Nat → Nat) (tv : Nat → Bool) (w w' : World) : Prop := IsM w' x bv tv ∧ Only (fun j => j = x.vb ∨ j = x.tb) w w'
theorem Wrt.none {x : Mm} {bv : Nat → Nat} {tv : Nat → Bool} {w w' : World} (h : IsM w x bv tv) (hb : Below w.heap.size w w') : Wrt x bv tv w w' := ⟨h.of hb, only_below hb⟩
theorem Wrt.some {x : Mm} {bv : Nat → Nat} {tv : Nat → Bool} {q n : Nat} {s : ByteArray} {f : Nat → Nat} {t : Bool} {w w1 w' : World} (h : IsM w x bv tv) (hb : Below w.heap.size w w1) (hL : Laid x.vb x.tb q n (bAt s) t w1 w') (hf : ∀ k < n, bAt s k = f k) : Wrt x (upd bv q n f) (upd tv q n fun _ => t) w w' :=
  ⟨by rw [← upd_congr hf]; exact (h.of hb).laid hL (bAt_lt s), (only_below hb).trans hL.only⟩
theorem store_nil (p : Nat) (n : Int) (v : Nat) (t : Bool) (w : World) : Calls Tryz.prog 122 #[.pointer none, .int .u64 p, .int .i64 n, .int .u64 v, .bool t] w fun e w' => e = .returned (.int .i64 1) ∧ Below w.heap.size w w' := by
  have hF := of_nil_writable p n
  go_enter Tryz.func122, Tryz.ntmps122
  go_wp2_with (go_at_call 136; (with_reducible refine (hF _).mono ?_); (rintro e w1 ⟨rfl, hb1⟩))
  go_ret
  exact ⟨rfl, aBelow hb1 _⟩
theorem lay_at {x : Mm} {bv : Nat → Nat} {tv : Nat → Bool} {w : World} (h : IsM w x bv tv) (q n : Nat) (s : ByteArray) (t : Bool) (hs : s.size = n) (hn : n ≤ 140737488355328) (hq : q + n ≤ tot x.l) :
    Calls Tryz.prog 45 #[.agg #[.slice (some ⟨x.vb, q, none⟩) n n, .slice (some ⟨x.tb, q, none⟩) n n], .string s, .bool t] w fun e w' => (∃ v, e = .returned v) ∧ Laid x.vb x.tb q n (bAt s) t w w' :=
  lay_any x.vb x.tb q n s t hs hn w (fun k hk => by rw [h.vals _ (by omega)]; rfl) (fun k hk => ⟨_, h.tnts _ (by omega)⟩) h.fv h.ft h.ne h.lv h.lt
set_option maxHeartbeats 1000000 in
theorem store_any {x : Mm} {bv : Nat → Nat} {tv : Nat → Bool} (p : Nat) (n : Int) (v : Nat) (t : Bool) (hp : p < 18446744073709551616) (hv : v < 18446744073709551616) (w : World) (h : IsM w x bv tv) :
    Calls Tryz.prog 122 #[.pointer (some ⟨x.mb, 0, none⟩), .int .u64 p, .int .i64 n, .int .u64 v, .bool t] w fun e w' => e = .returned (.int .i64 (stE x.l p n)) ∧ Wrt x (upO (stO x.l p n) bv n.toNat (wb v)) (upO (stO x.l p n) tv n.toNat fun _ => t) w w' := by
  by_cases hn : n < 1 ∨ 8 < n
  · have e1 : stO x.l p n = none := by unfold stO; rw [if_pos hn]
    have e2 : stE x.l p n = 2 := by unfold stE; rw [if_pos hn]
    rw [e1, e2]
    have hF := of_bad_writable x.mb p n hn
    clear hn e1 e2
    go_enter Tryz.func122, Tryz.ntmps122
    go_wp2_with (go_at_call 136; (with_reducible refine (hF _).mono ?_); (rintro e w1 ⟨rfl, hb1⟩))
    go_ret
    exact ⟨rfl, Wrt.none h (aBelow hb1 _)⟩
  · obtain ⟨m, rfl⟩ : ∃ m : Nat, n = m := ⟨n.toNat, by omega⟩
    have h1 : 1 ≤ m := by omega
    have h8 : m ≤ 8 := by omega
    have e2 : stE x.l p m = if (stO x.l p m).isSome then 0 else 40 := by unfold stE; rw [if_neg hn]
    rw [e2, Int.toNat_natCast]
    clear hn e2
    have hF := of_writable p m hp h1 h8 w h
    cases ho : fdO x.l p m (fun k => (k : Int) == 3 || (k : Int) == 4) with
    | none =>
      rw [stO_none h1 h8 ho, show (if (none : Option Nat).isSome = true then (0 : Int) else 40) = 40 from rfl]
      rw [ho] at hF
      simp only [pcV] at hF
      go_enter Tryz.func122, Tryz.ntmps122
      go_wp2_with (go_at_call 136; (with_reducible refine hF.mono ?_); (rintro e w1 ⟨rfl, hb1⟩))
      go_ret
      exact ⟨rfl, Wrt.none h (aBelow hb1 _)⟩
    | some q =>
      rw [stO_some h1 h8 ho, show (if (some q).isSome = true then (0 : Int) else 40) = 0 from rfl]
      have hq := fdO_tot ho
      rw [ho] at hF
      simp only [pcV] at hF
      have hW := bytes_any v m hv h1 h8
      have hbs := bl_size v m h8
      have hba : ∀ k < m, bAt (strOfNums (bl v m)) k = wb v k := fun k hk => bl_at v m k hv h8 hk
      generalize strOfNums (bl v m) = ss at *
      go_enter Tryz.func122, Tryz.ntmps122
      go_wp2_with (first | (go_at_call 136; (with_reducible refine hF.mono ?_); (rintro e w1 ⟨rfl, hb1⟩)) | (go_at_call 140; (with_reducible refine (hW _).mono ?_); (rintro e w2 ⟨rfl, hb2⟩); have hb12 := below_trans' (aBelow hb1 (.cells #[.slice (some ⟨x.vb, q, none⟩) m m, .slice (some ⟨x.tb, q, none⟩) m m] 112)) (Nat.le_refl _) hb2; have s0 := stay hb2 (nwc w1 #[.slice (some ⟨x.vb, q, none⟩) m m, .slice (some ⟨x.tb, q, none⟩) m m] 112 0); have s1 := stay hb2 (nwc w1 #[.slice (some ⟨x.vb, q, none⟩) m m, .slice (some ⟨x.tb, q, none⟩) m m] 112 1); have hlay := lay_at (h.of hb12) q m ss t hbs (by omega) hq) | (go_at_call 45; (with_reducible refine hlay.mono ?_); (rintro e w3 ⟨⟨rv, rfl⟩, hL⟩)))
      go_ret
      exact ⟨rfl, Wrt.some h hb12 hL hba⟩
theorem set_nil (p : Nat) (s : ByteArray) (hs : s.size ≤ 9223372036854775807) (t : Bool) (w : World) : Calls Tryz.prog 17 #[.pointer none, .int .u64 p, .string s, .bool t] w fun e w' => e = .returned (.int .i64 1) ∧ Below w.heap.size w w' := by
  have hF := find_nil_every p s.size
  go_enter Tryz.func17, Tryz.ntmps17
  go_wp2_with (go_at_call 43; (with_reducible refine (hF _).mono ?_); (rintro e w1 ⟨rfl, hb1⟩))
  go_ret
  exact ⟨rfl, aBelow hb1 _⟩
theorem fdO_every (l : List Rg) (p n : Nat) : fdO l p n (fun _ => true) = seO l p n := by
  unfold fdO seO
  cases hitI l p n <;> rfl
set_option maxHeartbeats 1000000 in
theorem set_any {x : Mm} {bv : Nat → Nat} {tv : Nat → Bool} (p : Nat) (s : ByteArray) (hs : s.size ≤ 140737488355328) (t : Bool) (hp : p < 18446744073709551616) (w : World) (h : IsM w x bv tv) :
    Calls Tryz.prog 17 #[.pointer (some ⟨x.mb, 0, none⟩), .int .u64 p, .string s, .bool t] w fun e w' => e = .returned (.int .i64 (seE x.l p s.size)) ∧ Wrt x (upO (seO x.l p s.size) bv s.size (bAt s)) (upO (seO x.l p s.size) tv s.size fun _ => t) w w' := by
  have hF := fd_every p s.size hp (by omega) w h
  rw [fdO_every] at hF
  unfold seE
  cases ho : seO x.l p s.size with
  | none =>
    rw [show (if (none : Option Nat).isSome = true then (0 : Int) else 40) = 40 from rfl]
    rw [ho] at hF
    simp only [pcV] at hF
    go_enter Tryz.func17, Tryz.ntmps17
    go_wp2_with (go_at_call 43; (with_reducible refine hF.mono ?_); (rintro e w1 ⟨rfl, hb1⟩))
    go_ret
    exact ⟨rfl, Wrt.none h (aBelow hb1 _)⟩
  | some q =>
    rw [show (if (some q).isSome = true then (0 : Int) else 40) = 0 from rfl]
    have hq := fdO_tot ((fdO_every _ _ _).trans ho)
    rw [ho] at hF
    simp only [pcV] at hF
    go_enter Tryz.func17, Tryz.ntmps17
    go_wp2_with (first | (go_at_call 43; (with_reducible refine hF.mono ?_); (rintro e w1 ⟨rfl, hb1⟩); have hb12 := aBelow hb1 (.cells #[.slice (some ⟨x.vb, q, none⟩) s.size s.size, .slice (some ⟨x.tb, q, none⟩) s.size s.size] 112); have hlay := lay_at (h.of hb12) q s.size s t rfl hs hq) | (go_at_call 45; (with_reducible refine hlay.mono ?_); (rintro e w3 ⟨⟨rv, rfl⟩, hL⟩)))
    go_ret
    exact ⟨rfl, Wrt.some h hb12 hL (fun k _ => rfl)⟩
theorem fetch_nil (p : Nat) (w : World) : Calls Tryz.prog 51 #[.pointer none, .int .u64 p] w fun e w' => e = .returned (.tuple #[.int .u32 0, .int .i64 1]) ∧ Below w.heap.size w w' := by
  have hF := find_nil_fetchable p 4
  go_enter Tryz.func51, Tryz.ntmps51
  go_wp2_with (go_at_call 43; (with_reducible refine (hF _).mono ?_); (rintro e w1 ⟨rfl, hb1⟩))
  go_ret2
  exact ⟨rfl, aBelow hb1 _⟩
theorem feF_none {l : List Rg} {bv : Nat → Nat} {p : Nat} (h : fdO l p 4 (fun k => (k : Int) == 1) = none) : feF l bv p = (0, 40) := by
  unfold feF
  by_cases h4 : p % 4 ≠ 0
  · rw [if_pos h4]
  · rw [if_neg h4]
    unfold fdO at h
    split
    · rfl
    · rename_i i hi
      rw [hi] at h
      by_cases hk : (rg l i).k = 1
      · exfalso
        simp only at h
        rw [if_pos (by simp; omega)] at h
        cases h
      · rw [if_neg hk]
theorem feF_some {l : List Rg} {bv : Nat → Nat} {p q : Nat} (h : fdO l p 4 (fun k => (k : Int) == 1) = some q) (h4 : p % 4 = 0) : feF l bv p = (ldv bv q 4, 0) := by
  obtain ⟨i, hi, rfl, hk⟩ := fdO_some h
  unfold feF; rw [if_neg (by omega), hi]
  simp only
  rw [if_pos (by simp at hk; omega)]
set_option maxHeartbeats 1000000 in
theorem fetch_any {x : Mm} {bv : Nat → Nat} {tv : Nat → Bool} (p : Nat) (hp : p < 18446744073709551616) (w : World) (h : IsM w x bv tv) :
    Calls Tryz.prog 51 #[.pointer (some ⟨x.mb, 0, none⟩), .int .u64 p] w fun e w' => e = .returned (.tuple #[.int .u32 ((feF x.l bv p).1 : Nat), .int .i64 (feF x.l bv p).2]) ∧ Below w.heap.size w w' := by
  have hF := fd_fetchable p 4 hp (by omega) w h
  rw [show ((4 : Nat) : Int) = 4 from rfl] at hF
  cases ho : fdO x.l p 4 (fun k => (k : Int) == 1) with
  | none =>
    rw [feF_none ho]
    rw [ho] at hF
    simp only [pcV] at hF
    go_enter Tryz.func51, Tryz.ntmps51
    go_wp2_with (go_at_call 43; (with_reducible refine hF.mono ?_); (rintro e w1 ⟨rfl, hb1⟩))
    go_ret2
    exact ⟨rfl, aBelow hb1 _⟩
  | some q =>
    have hq := fdO_tot ho
    rw [ho] at hF
    simp only [pcV] at hF
    by_cases h4 : p % 4 = 0
    · have h4' : ((p : Int).tmod 4) = 0 := by rw [Int.tmod_eq_emod_of_nonneg (Int.natCast_nonneg _)]; omega
      have h4'' : ((p : Int) % 4) = 0 := by omega
      rw [feF_some ho h4]
      have hsz : (strOfNums (numsAt bv q 4)).size = 4 := by rw [strOfNums_size, numsAt_length]
      have hW := word_any (strOfNums (numsAt bv q 4)) (by omega) (by omega)
      rw [wordv_nums h.b8] at hW
      have hlt := ldv_lt h.b8 4 q
      obtain ⟨ss, hss⟩ : ∃ ss, strOfNums (numsAt bv q 4) = ss := ⟨_, rfl⟩
      rw [hss] at hW
      generalize ldv bv q 4 = vv at *
      go_enter Tryz.func51, Tryz.ntmps51
      go_wp2_with (first | (go_at_call 43; (with_reducible refine hF.mono ?_); (rintro e w1 ⟨rfl, hb1⟩); have hI := (h.of hb1).of (aBelow (Below.refl _ _) (.cells #[.slice (some ⟨x.vb, q, none⟩) 4 4, .slice (some ⟨x.tb, q, none⟩) 4 4] 112)); have hcv := conv_at hI q 4 hq; rw [hss] at hcv) | (go_at_call 89; (with_reducible refine (hW _).mono ?_); (rintro e w2 ⟨rfl, rfl⟩)))
      go_ret2
      exact ⟨rfl, aBelow hb1 _⟩
    · have h4' : ¬ ((p : Int).tmod 4) = 0 := by rw [Int.tmod_eq_emod_of_nonneg (Int.natCast_nonneg _)]; omega
      have h4'' : ¬ ((p : Int) % 4) = 0 := by omega
      have e : feF x.l bv p = (0, 40) := by unfold feF; rw [if_pos h4]
      rw [e]
      go_enter Tryz.func51, Tryz.ntmps51
      go_wp2_with (go_at_call 43; (with_reducible refine hF.mono ?_); (rintro e w1 ⟨rfl, hb1⟩))
      go_ret2
      exact ⟨rfl, aBelow hb1 _⟩
end Go.Proofs.YtfaacmcnefbgcaaGreatDoor.m4
