/- The document's Show: params; rows of texts appended to rows. -/
import Derived.Test.YtfbjljcmmbdhkaaGreatDoorT40
import Derived.Test.YtfbjljcmmbdhkaaGreatDoorT10
namespace Go.Proofs.YtfbjljcmmbdhkaaGreatDoor
set_option linter.unusedVariables false
set_option linter.unusedSimpArgs false
set_option maxRecDepth 100000
set_option maxHeartbeats 200000000
open Go.ChangeShapes Go.WideShapes Go.ChangeAt Go.RowKit
theorem HasS.neS {C : Array Value} {t : TypeId} {k B n : Nat} {w : World} {l : Value} {xs : List Value} (h : HasS C t k w) (ht : t ≠ 9) (ho : w.ownsRow B 9 1 l n xs) : ¬ l.ownBlock = some k := fun e => by
 rcases ho.2 with ⟨h0, _⟩ | ⟨g, cap, cur, hv, hg, hh, hr⟩
 ·rw [h0] at e; cases e
 ·rw [hv] at e
  cases e
  rw [h] at hh
  cases hh
  exact ht rfl
theorem HasS.onlyS {C : Array Value} {t : TypeId} {k : Nat} {w w' : World} {S : Nat → Prop} (h : HasS C t k w) (ho : Only S w w') (hs : ¬ S k) : HasS C t k w' := (ho.block _ h.lt hs).trans h
theorem strs_cells {G : Nat → Prop} {w : World} {N : List (List UInt8)} {b o : Nat} (h : StrsAt G w N (some ⟨b, o, none⟩)) : ∀ (j : Nat) (u : Value), (strC N)[j]? = some u → w.cell? ((⟨b, o, none⟩ : Addr).add j) = some u := fun j u hu => by
 have hj : j < N.length := by have := (List.getElem?_eq_some_iff.1 hu).1; simpa [strC] using this
 obtain ⟨b', o', e, -, hc⟩ := h j hj
 cases e
 have e2 : u = .string (str N[j]) := by simpa [strC, hj] using hu.symm
 rw [e2, addp]
 exact hc
theorem stSlR {ops : Array Oper} {o : Oper} {a : Act} {w : World} {K : Act → World → Prop} {Q : Exit → Act → World → Prop} {E : Prop} (hgd : o.guard = none) (s x : Operand)
 (ho : o.op = .call { callee := .builtin .append, args := #[s, x], argTypes := #[50, 50] }) (B : Nat) (v : Value) (T N : List (List UInt8)) (G : Nat → Prop) (ma : Option Addr) (c : Nat)
 (hs : a.eval s = v) (hx : a.eval x = .slice ma N.length c) (hN : StrsAt G w N ma) (hown : w.ownsRow B 9 1 v T.length (strC T)) (hl : T.length + N.length ≤ 1000000) (hB : B ≤ w.heap.size)
 (h : ∀ l' w', Sl B w w' v l' (T ++ N) → K (a.put o.dst l') w') :
 if Region.wanted o (yielded ops a.tmps) = true then Oper.wp Tryz.prog o a w K Q else E := by
 obtain ⟨i0, hi, hz0, hz1, hz2⟩ := info_parts infoSl
 by_cases h0 : N = []
 ·subst h0
  have hw : Region.wanted o (yielded ops a.tmps) = true := by simp [Region.wanted, hgd]
  rw [if_pos hw]
  have hrun := run_append_zero (P := Tryz.prog) (w := w) B 50 o.type 9 i0 1 Tryz.underlying50 hi v T.length (strC T) hown ma c
  unfold Oper.wp
  simp only [List.length_nil] at hx
  simp [execOp, ho, resolve, invoke, builtin, hs, hx, hrun, Result.andThen]
  exact h v w (by simpa using Sl.refl hown)
 ·have hp : 0 < N.length := List.length_pos_iff.2 h0
  obtain ⟨b, off, rfl, _⟩ := hN 0 hp
  exact step_append_lies w hgd s x 50 ho B 9 i0 _ 1 16 Tryz.underlying50 hi hz0 hz1 hz2 rfl (by decide) v T.length (strC T) hs hown ⟨b, off, none⟩ N.length c (strC N) hx (by simp [strC]) (strs_cells hN) (strC_one _) hp (by unfold maxLen; omega) (by omega) hB _ rfl fun g cap w' h1 h2 h3 h4 => h _ w' (sl_append h1 rfl rfl h2 h3 rfl)
def wordR (x : Pm) : List (List UInt8) := if (!x.buf && !x.sec) = true then [wNum] else if (x.buf && x.mu) = true then [wEdit] else if x.buf = true then [wView] else []
theorem psR_take : ∀ (l : List Pm) (j : Nat) (h : j < l.length), psR (l.take (j + 1)) = psR (l.take j) ++ (if j = 0 then [] else [[44]]) ++ wordR l[j] ++ secR l[j].sec ++ [l[j].nm]
 | x :: r, 0, _ => by simp [psR, pmR, wordR]
 | x :: r, j + 1, h => by
   have h' : j < r.length := by simpa using h
   rw [List.take_succ_cons, List.take_succ_cons, psR, psR, List.take_succ_eq_append_getElem h', List.flatMap_append]
   simp [pmR, wordR]
theorem pmR_len (x : Pm) : (pmR x).length ≤ 3 := by
 have := secR_len x.sec
 unfold pmR
 rw [List.length_append, List.length_append]
 split
 ·simp; omega
 ·split
  ·simp; omega
  ·split <;> simp <;> omega
theorem psR_len : ∀ (l : List Pm), (psR l).length ≤ 4 * l.length
 | [] => by simp [psR]
 | x :: r => by
   have : ∀ (r : List Pm), (r.flatMap fun y => [44] :: pmR y).length ≤ 4 * r.length := fun r => by
    induction r with
    | nil => simp
    | cons a r ih => have := pmR_len a; rw [List.flatMap_cons, List.length_append, List.length_cons, List.length_cons]; omega
   have h1 := pmR_len x
   have h2 := this r
   rw [psR, List.length_append, List.length_cons]
   omega
theorem rparams_any (ps : List Pm) (ma : Option Addr) (n cap : Nat) (w0 : World) (hn : ps.length = n) (hn8 : n ≤ 1000) (hP : PmsAt (fun b => b < w0.heap.size) w0 ps ma) :
 Calls Tryz.prog 29 #[.slice ma n cap] w0 fun r w' => ∃ l', r = .returned l' ∧ Sl w0.heap.size w0 w' (.slice none 0 0) l' (psR ps) := by
 have HN := Lib.hid hn
 have HP := Lib.hid hP
 clear hn hP
 go_enter Tryz.func29, Tryz.ntmps29
 go_wp2
 go_loopw [3, 4] (fun lv iv wr => ∃ (j : Nat) (la : Value), j ≤ n ∧ iv = .int .i64 (j : Int) ∧ la = lv ∧ Sl w0.heap.size w0 wr (.slice none 0 0) la (psR (ps.take j))) (fun _ iv _ => n - (intOf iv).toNat)
 case atStart => exact ⟨0, _, Nat.zero_le _, rfl, rfl, Sl.refl (World.ownsRow_nil _ _ _ _)⟩
 case round =>
  obtain ⟨j, la, hj, rfl, rfl, hSa⟩ := hrel
  have hBa : Below w0.heap.size w0 wr := hSa.only.below (fun j hj => by cases hj) (Nat.le_refl _)
  by_cases hlt : j < n
  ·have hlt' : j < ps.length := by rw [HN.out]; exact hlt
   obtain ⟨b, o, hma, hbB, d0, d1, d2, d3⟩ := HP.out j hlt'
   subst hma
   have g0 := stay hBa d0
   have g1 := stay hBa d1
   have g2 := stay hBa d2
   have g3 := stay hBa d3
   have gl : b < wr.heap.size := Nat.lt_of_lt_of_le hbB hBa.size
   have htk := psR_take ps j hlt'
   have hpl := psR_len (ps.take j)
   rw [List.length_take] at hpl
   have hpl2 : (psR (ps.take j)).length ≤ 4000 := by omega
   clear hpl d0 d1 d2 d3
   obtain ⟨x, hx⟩ : ∃ x, x = ps[j] := ⟨_, rfl⟩
   rw [← hx] at g0 g1 g2 g3 htk
   have HTK := Lib.hid htk
   clear hx htk
   obtain ⟨nm, bu, sc, mu⟩ := x
   simp only at g0 g1 g2 g3
   obtain ⟨T0, hT0⟩ : ∃ T0, T0 = psR (ps.take j) := ⟨_, rfl⟩
   rw [← hT0] at hSa hpl2
   have HT0 := Lib.hid hT0
   clear hT0
   -- the param, boxed
   obtain ⟨W1, hW1⟩ : ∃ W1, wr.alloc (.cells #[.string (str nm), .bool bu, .bool sc, .bool mu] 49) = W1 := ⟨_, rfl⟩
   have hBW : Below wr.heap.size wr W1 := by rw [← hW1]; exact aB (Below.refl _ _) _
   have hS1 : HasS #[.string (str nm), .bool bu, .bool sc, .bool mu] 49 wr.heap.size W1 := by rw [← hW1]; exact HasS.new _ _ _
   have hSW := hSa.post hBW
   have hsb := Nat.le_trans hSa.only.size hBW.size
   have hT0l : T0.length ≤ 4000 := hpl2
   have hc : (bu = false ∧ sc = false) ∨ (bu = false ∧ sc = true) ∨ (bu = true ∧ mu = true) ∨ (bu = true ∧ mu = false) := by cases bu <;> cases sc <;> cases mu <;> simp
   have h0c : j = 0 ∨ 0 < j := by omega
   rcases hc with ⟨e1, e2⟩ | ⟨e1, e2⟩ | ⟨e1, e2⟩ | ⟨e1, e2⟩ <;> rcases h0c with h0 | h0
   all_goals
    have HE1 := Lib.hid e1
    have HE2 := Lib.hid e2
    clear e1 e2
   case' pos.inl.inl =>
    have hwd : wordR ⟨nm, bu, sc, mu⟩ = [wNum] := by simp [wordR, HE1.out, HE2.out]
    obtain ⟨T1, hT1⟩ : ∃ T1, T1 = T0 ++ (if j = 0 then [] else [[44]]) := ⟨_, rfl⟩
    have hj0 : ¬ (0 : Int) < (j : Int) := by omega
    have hS2 : Sl w0.heap.size w0 W1 (.slice none 0 0) la T1 := by rw [hT1, if_pos h0, List.append_nil]; exact hSW
    have hT1l : T1.length ≤ 4001 := by rw [hT1, if_pos h0]; simp; omega
    have HT1 := Lib.hid hT1
    have z1 : W1.cell? ⟨wr.heap.size, 1, none⟩ = some (.bool false) := by have := (hS1.cell 1 : W1.cell? ⟨wr.heap.size, 1, none⟩ = some (.bool bu)); rw [HE1.out] at this; exact this
    have z2 : W1.cell? ⟨wr.heap.size, 2, none⟩ = some (.bool false) := by have := (hS1.cell 2 : W1.cell? ⟨wr.heap.size, 2, none⟩ = some (.bool sc)); rw [HE2.out] at this; exact this
    have zl := hS1.lt
    clear hT1 h0
    have hB2 := hS2.only.size
    go_wp2_with (at_builtin; refine wpSl rfl _ _ rfl w0.heap.size la T1 [wNum] _ 1 1 W1.heap.size rfl rfl (hS2.own.alloc _) rfl rfl (news_ok (strC [wNum]) 9 W1) (by decide) (by omega) (Nat.le_trans hB2 (by simp)) ?_)
    intro gd capd Wc hSx hod hgd
    have hSy := hSx.pre (aB (Below.refl _ _) _)
    have hS1b := hS1.onlyS hSy.only (hS1.neS (by decide) hS2.own)
    have hS3 := hS2.trans hSy
    obtain ⟨lc, hlc⟩ : ∃ lc, lc = Value.slice (some ⟨gd, 0, none⟩) (T1.length + 1) capd := ⟨_, rfl⟩
    rw [← hlc] at hS3 ⊢
    obtain ⟨T2, hT2⟩ : ∃ T2, T2 = T1 ++ wordR ⟨nm, bu, sc, mu⟩ := ⟨_, rfl⟩
    replace hS3 : Sl w0.heap.size w0 Wc (.slice none 0 0) lc T2 := by rw [hT2, hwd]; exact hS3
    have hT2l : T2.length ≤ 4002 := by rw [hT2, hwd]; simp; omega
    have HT2 := Lib.hid hT2
    clear hT2 hwd hlc hod hgd hSx hSy hS1 z1 z2 zl
    have hS1 := hS1b
    have zl := hS1.lt
    clear hS1b
    go_wp2
   case' pos.inl.inr =>
    have hwd : wordR ⟨nm, bu, sc, mu⟩ = [wNum] := by simp [wordR, HE1.out, HE2.out]
    obtain ⟨T1, hT1⟩ : ∃ T1, T1 = T0 ++ (if j = 0 then [] else [[44]]) := ⟨_, rfl⟩
    have hj0 : (0 : Int) < (j : Int) := by omega
    have h0n : ¬ j = 0 := by omega
    have z1 : W1.cell? ⟨wr.heap.size, 1, none⟩ = some (.bool false) := by have := (hS1.cell 1 : W1.cell? ⟨wr.heap.size, 1, none⟩ = some (.bool bu)); rw [HE1.out] at this; exact this
    have z2 : W1.cell? ⟨wr.heap.size, 2, none⟩ = some (.bool false) := by have := (hS1.cell 2 : W1.cell? ⟨wr.heap.size, 2, none⟩ = some (.bool sc)); rw [HE2.out] at this; exact this
    have zl := hS1.lt
    go_wp2_with (at_builtin; refine wpSl rfl _ _ rfl w0.heap.size la T0 [[44]] _ 1 1 W1.heap.size rfl rfl (hSW.own.alloc _) rfl rfl (news_ok (strC [[44]]) 9 W1) (by decide) (by omega) (Nat.le_trans hSW.only.size (by simp)) ?_)
    intro gc capc Wb hSx hoc hgc
    have hSy := hSx.pre (aB (Below.refl _ _) _)
    have hS1b := hS1.onlyS hSy.only (hS1.neS (by decide) hSW.own)
    have hS2 := hSW.trans hSy
    obtain ⟨lb, hlb⟩ : ∃ lb, lb = Value.slice (some ⟨gc, 0, none⟩) (T0.length + 1) capc := ⟨_, rfl⟩
    rw [← hlb] at hS2 ⊢
    replace hS2 : Sl w0.heap.size w0 Wb (.slice none 0 0) lb T1 := by rw [hT1, if_neg h0n]; exact hS2
    have hT1l : T1.length ≤ 4001 := by rw [hT1, if_neg h0n]; simp; omega
    have HT1 := Lib.hid hT1
    clear z1 z2 zl hS1 hSx hSy hoc hgc
    have hS1 := hS1b
    have z1 : Wb.cell? ⟨wr.heap.size, 1, none⟩ = some (.bool false) := by have := (hS1.cell 1 : Wb.cell? ⟨wr.heap.size, 1, none⟩ = some (.bool bu)); rw [HE1.out] at this; exact this
    have z2 : Wb.cell? ⟨wr.heap.size, 2, none⟩ = some (.bool false) := by have := (hS1.cell 2 : Wb.cell? ⟨wr.heap.size, 2, none⟩ = some (.bool sc)); rw [HE2.out] at this; exact this
    have zl := hS1.lt
    clear hT1 h0 h0n hS1b hlb
    have hB2 := hS2.only.size
    go_wp2_with (at_builtin; refine wpSl rfl _ _ rfl w0.heap.size lb T1 [wNum] _ 1 1 Wb.heap.size rfl rfl (hS2.own.alloc _) rfl rfl (news_ok (strC [wNum]) 9 Wb) (by decide) (by omega) (Nat.le_trans hB2 (by simp)) ?_)
    intro gd capd Wc hSx hod hgd
    have hSy := hSx.pre (aB (Below.refl _ _) _)
    have hS1b := hS1.onlyS hSy.only (hS1.neS (by decide) hS2.own)
    have hS3 := hS2.trans hSy
    obtain ⟨lc, hlc⟩ : ∃ lc, lc = Value.slice (some ⟨gd, 0, none⟩) (T1.length + 1) capd := ⟨_, rfl⟩
    rw [← hlc] at hS3 ⊢
    obtain ⟨T2, hT2⟩ : ∃ T2, T2 = T1 ++ wordR ⟨nm, bu, sc, mu⟩ := ⟨_, rfl⟩
    replace hS3 : Sl w0.heap.size w0 Wc (.slice none 0 0) lc T2 := by rw [hT2, hwd]; exact hS3
    have hT2l : T2.length ≤ 4002 := by rw [hT2, hwd]; simp; omega
    have HT2 := Lib.hid hT2
    clear hT2 hwd hlc hod hgd hSx hSy hS1 z1 z2 zl
    have hS1 := hS1b
    have zl := hS1.lt
    clear hS1b
    go_wp2
   case' pos.inr.inl.inl =>
    have hwd : wordR ⟨nm, bu, sc, mu⟩ = [] := by simp [wordR, HE1.out, HE2.out]
    obtain ⟨T1, hT1⟩ : ∃ T1, T1 = T0 ++ (if j = 0 then [] else [[44]]) := ⟨_, rfl⟩
    have hj0 : ¬ (0 : Int) < (j : Int) := by omega
    have hS2 : Sl w0.heap.size w0 W1 (.slice none 0 0) la T1 := by rw [hT1, if_pos h0, List.append_nil]; exact hSW
    have hT1l : T1.length ≤ 4001 := by rw [hT1, if_pos h0]; simp; omega
    have HT1 := Lib.hid hT1
    have z1 : W1.cell? ⟨wr.heap.size, 1, none⟩ = some (.bool false) := by have := (hS1.cell 1 : W1.cell? ⟨wr.heap.size, 1, none⟩ = some (.bool bu)); rw [HE1.out] at this; exact this
    have z2 : W1.cell? ⟨wr.heap.size, 2, none⟩ = some (.bool true) := by have := (hS1.cell 2 : W1.cell? ⟨wr.heap.size, 2, none⟩ = some (.bool sc)); rw [HE2.out] at this; exact this
    have zl := hS1.lt
    clear hT1 h0
    have hB2 := hS2.only.size
    go_wp2
    obtain ⟨lc, hlc⟩ : ∃ lc, lc = la := ⟨_, rfl⟩
    obtain ⟨Wc, hWc⟩ : ∃ Wc, Wc = W1 := ⟨_, rfl⟩
    obtain ⟨T2, hT2⟩ : ∃ T2, T2 = T1 ++ wordR ⟨nm, bu, sc, mu⟩ := ⟨_, rfl⟩
    have hS3 : Sl w0.heap.size w0 W1 (.slice none 0 0) la T2 := by rw [hT2, hwd, List.append_nil]; exact hS2
    have hT2l : T2.length ≤ 4002 := by rw [hT2, hwd]; simp; omega
    have HT2 := Lib.hid hT2
    clear z1 z2
    rw [← hWc] at hS3 hS1 zl ⊢
    rw [← hlc] at hS3 ⊢
    clear hT2 hwd hlc hWc
   case' pos.inr.inl.inr =>
    have hwd : wordR ⟨nm, bu, sc, mu⟩ = [] := by simp [wordR, HE1.out, HE2.out]
    obtain ⟨T1, hT1⟩ : ∃ T1, T1 = T0 ++ (if j = 0 then [] else [[44]]) := ⟨_, rfl⟩
    have hj0 : (0 : Int) < (j : Int) := by omega
    have h0n : ¬ j = 0 := by omega
    have z1 : W1.cell? ⟨wr.heap.size, 1, none⟩ = some (.bool false) := by have := (hS1.cell 1 : W1.cell? ⟨wr.heap.size, 1, none⟩ = some (.bool bu)); rw [HE1.out] at this; exact this
    have z2 : W1.cell? ⟨wr.heap.size, 2, none⟩ = some (.bool true) := by have := (hS1.cell 2 : W1.cell? ⟨wr.heap.size, 2, none⟩ = some (.bool sc)); rw [HE2.out] at this; exact this
    have zl := hS1.lt
    go_wp2_with (at_builtin; refine wpSl rfl _ _ rfl w0.heap.size la T0 [[44]] _ 1 1 W1.heap.size rfl rfl (hSW.own.alloc _) rfl rfl (news_ok (strC [[44]]) 9 W1) (by decide) (by omega) (Nat.le_trans hSW.only.size (by simp)) ?_)
    intro gc capc Wb hSx hoc hgc
    have hSy := hSx.pre (aB (Below.refl _ _) _)
    have hS1b := hS1.onlyS hSy.only (hS1.neS (by decide) hSW.own)
    have hS2 := hSW.trans hSy
    obtain ⟨lb, hlb⟩ : ∃ lb, lb = Value.slice (some ⟨gc, 0, none⟩) (T0.length + 1) capc := ⟨_, rfl⟩
    rw [← hlb] at hS2 ⊢
    replace hS2 : Sl w0.heap.size w0 Wb (.slice none 0 0) lb T1 := by rw [hT1, if_neg h0n]; exact hS2
    have hT1l : T1.length ≤ 4001 := by rw [hT1, if_neg h0n]; simp; omega
    have HT1 := Lib.hid hT1
    clear z1 z2 zl hS1 hSx hSy hoc hgc
    have hS1 := hS1b
    have z1 : Wb.cell? ⟨wr.heap.size, 1, none⟩ = some (.bool false) := by have := (hS1.cell 1 : Wb.cell? ⟨wr.heap.size, 1, none⟩ = some (.bool bu)); rw [HE1.out] at this; exact this
    have z2 : Wb.cell? ⟨wr.heap.size, 2, none⟩ = some (.bool true) := by have := (hS1.cell 2 : Wb.cell? ⟨wr.heap.size, 2, none⟩ = some (.bool sc)); rw [HE2.out] at this; exact this
    have zl := hS1.lt
    clear hT1 h0 h0n hS1b hlb
    have hB2 := hS2.only.size
    go_wp2
    obtain ⟨lc, hlc⟩ : ∃ lc, lc = lb := ⟨_, rfl⟩
    obtain ⟨Wc, hWc⟩ : ∃ Wc, Wc = Wb := ⟨_, rfl⟩
    obtain ⟨T2, hT2⟩ : ∃ T2, T2 = T1 ++ wordR ⟨nm, bu, sc, mu⟩ := ⟨_, rfl⟩
    have hS3 : Sl w0.heap.size w0 Wb (.slice none 0 0) lb T2 := by rw [hT2, hwd, List.append_nil]; exact hS2
    have hT2l : T2.length ≤ 4002 := by rw [hT2, hwd]; simp; omega
    have HT2 := Lib.hid hT2
    clear z1 z2
    rw [← hWc] at hS3 hS1 zl ⊢
    rw [← hlc] at hS3 ⊢
    clear hT2 hwd hlc hWc
   case' pos.inr.inr.inl.inl =>
    have hwd : wordR ⟨nm, bu, sc, mu⟩ = [wEdit] := by simp [wordR, HE1.out, HE2.out]
    obtain ⟨T1, hT1⟩ : ∃ T1, T1 = T0 ++ (if j = 0 then [] else [[44]]) := ⟨_, rfl⟩
    have hj0 : ¬ (0 : Int) < (j : Int) := by omega
    have hS2 : Sl w0.heap.size w0 W1 (.slice none 0 0) la T1 := by rw [hT1, if_pos h0, List.append_nil]; exact hSW
    have hT1l : T1.length ≤ 4001 := by rw [hT1, if_pos h0]; simp; omega
    have HT1 := Lib.hid hT1
    have z1 : W1.cell? ⟨wr.heap.size, 1, none⟩ = some (.bool true) := by have := (hS1.cell 1 : W1.cell? ⟨wr.heap.size, 1, none⟩ = some (.bool bu)); rw [HE1.out] at this; exact this
    have z2 : W1.cell? ⟨wr.heap.size, 3, none⟩ = some (.bool true) := by have := (hS1.cell 3 : W1.cell? ⟨wr.heap.size, 3, none⟩ = some (.bool mu)); rw [HE2.out] at this; exact this
    have zl := hS1.lt
    clear hT1 h0
    have hB2 := hS2.only.size
    go_wp2_with (at_builtin; refine wpSl rfl _ _ rfl w0.heap.size la T1 [wEdit] _ 1 1 W1.heap.size rfl rfl (hS2.own.alloc _) rfl rfl (news_ok (strC [wEdit]) 9 W1) (by decide) (by omega) (Nat.le_trans hB2 (by simp)) ?_)
    intro gd capd Wc hSx hod hgd
    have hSy := hSx.pre (aB (Below.refl _ _) _)
    have hS1b := hS1.onlyS hSy.only (hS1.neS (by decide) hS2.own)
    have hS3 := hS2.trans hSy
    obtain ⟨lc, hlc⟩ : ∃ lc, lc = Value.slice (some ⟨gd, 0, none⟩) (T1.length + 1) capd := ⟨_, rfl⟩
    rw [← hlc] at hS3 ⊢
    obtain ⟨T2, hT2⟩ : ∃ T2, T2 = T1 ++ wordR ⟨nm, bu, sc, mu⟩ := ⟨_, rfl⟩
    replace hS3 : Sl w0.heap.size w0 Wc (.slice none 0 0) lc T2 := by rw [hT2, hwd]; exact hS3
    have hT2l : T2.length ≤ 4002 := by rw [hT2, hwd]; simp; omega
    have HT2 := Lib.hid hT2
    clear hT2 hwd hlc hod hgd hSx hSy hS1 z1 z2 zl
    have hS1 := hS1b
    have zl := hS1.lt
    clear hS1b
    go_wp2
   case' pos.inr.inr.inl.inr =>
    have hwd : wordR ⟨nm, bu, sc, mu⟩ = [wEdit] := by simp [wordR, HE1.out, HE2.out]
    obtain ⟨T1, hT1⟩ : ∃ T1, T1 = T0 ++ (if j = 0 then [] else [[44]]) := ⟨_, rfl⟩
    have hj0 : (0 : Int) < (j : Int) := by omega
    have h0n : ¬ j = 0 := by omega
    have z1 : W1.cell? ⟨wr.heap.size, 1, none⟩ = some (.bool true) := by have := (hS1.cell 1 : W1.cell? ⟨wr.heap.size, 1, none⟩ = some (.bool bu)); rw [HE1.out] at this; exact this
    have z2 : W1.cell? ⟨wr.heap.size, 3, none⟩ = some (.bool true) := by have := (hS1.cell 3 : W1.cell? ⟨wr.heap.size, 3, none⟩ = some (.bool mu)); rw [HE2.out] at this; exact this
    have zl := hS1.lt
    go_wp2_with (at_builtin; refine wpSl rfl _ _ rfl w0.heap.size la T0 [[44]] _ 1 1 W1.heap.size rfl rfl (hSW.own.alloc _) rfl rfl (news_ok (strC [[44]]) 9 W1) (by decide) (by omega) (Nat.le_trans hSW.only.size (by simp)) ?_)
    intro gc capc Wb hSx hoc hgc
    have hSy := hSx.pre (aB (Below.refl _ _) _)
    have hS1b := hS1.onlyS hSy.only (hS1.neS (by decide) hSW.own)
    have hS2 := hSW.trans hSy
    obtain ⟨lb, hlb⟩ : ∃ lb, lb = Value.slice (some ⟨gc, 0, none⟩) (T0.length + 1) capc := ⟨_, rfl⟩
    rw [← hlb] at hS2 ⊢
    replace hS2 : Sl w0.heap.size w0 Wb (.slice none 0 0) lb T1 := by rw [hT1, if_neg h0n]; exact hS2
    have hT1l : T1.length ≤ 4001 := by rw [hT1, if_neg h0n]; simp; omega
    have HT1 := Lib.hid hT1
    clear z1 z2 zl hS1 hSx hSy hoc hgc
    have hS1 := hS1b
    have z1 : Wb.cell? ⟨wr.heap.size, 1, none⟩ = some (.bool true) := by have := (hS1.cell 1 : Wb.cell? ⟨wr.heap.size, 1, none⟩ = some (.bool bu)); rw [HE1.out] at this; exact this
    have z2 : Wb.cell? ⟨wr.heap.size, 3, none⟩ = some (.bool true) := by have := (hS1.cell 3 : Wb.cell? ⟨wr.heap.size, 3, none⟩ = some (.bool mu)); rw [HE2.out] at this; exact this
    have zl := hS1.lt
    clear hT1 h0 h0n hS1b hlb
    have hB2 := hS2.only.size
    go_wp2_with (at_builtin; refine wpSl rfl _ _ rfl w0.heap.size lb T1 [wEdit] _ 1 1 Wb.heap.size rfl rfl (hS2.own.alloc _) rfl rfl (news_ok (strC [wEdit]) 9 Wb) (by decide) (by omega) (Nat.le_trans hB2 (by simp)) ?_)
    intro gd capd Wc hSx hod hgd
    have hSy := hSx.pre (aB (Below.refl _ _) _)
    have hS1b := hS1.onlyS hSy.only (hS1.neS (by decide) hS2.own)
    have hS3 := hS2.trans hSy
    obtain ⟨lc, hlc⟩ : ∃ lc, lc = Value.slice (some ⟨gd, 0, none⟩) (T1.length + 1) capd := ⟨_, rfl⟩
    rw [← hlc] at hS3 ⊢
    obtain ⟨T2, hT2⟩ : ∃ T2, T2 = T1 ++ wordR ⟨nm, bu, sc, mu⟩ := ⟨_, rfl⟩
    replace hS3 : Sl w0.heap.size w0 Wc (.slice none 0 0) lc T2 := by rw [hT2, hwd]; exact hS3
    have hT2l : T2.length ≤ 4002 := by rw [hT2, hwd]; simp; omega
    have HT2 := Lib.hid hT2
    clear hT2 hwd hlc hod hgd hSx hSy hS1 z1 z2 zl
    have hS1 := hS1b
    have zl := hS1.lt
    clear hS1b
    go_wp2
   case' pos.inr.inr.inr.inl =>
    have hwd : wordR ⟨nm, bu, sc, mu⟩ = [wView] := by simp [wordR, HE1.out, HE2.out]
    obtain ⟨T1, hT1⟩ : ∃ T1, T1 = T0 ++ (if j = 0 then [] else [[44]]) := ⟨_, rfl⟩
    have hj0 : ¬ (0 : Int) < (j : Int) := by omega
    have hS2 : Sl w0.heap.size w0 W1 (.slice none 0 0) la T1 := by rw [hT1, if_pos h0, List.append_nil]; exact hSW
    have hT1l : T1.length ≤ 4001 := by rw [hT1, if_pos h0]; simp; omega
    have HT1 := Lib.hid hT1
    have z1 : W1.cell? ⟨wr.heap.size, 1, none⟩ = some (.bool true) := by have := (hS1.cell 1 : W1.cell? ⟨wr.heap.size, 1, none⟩ = some (.bool bu)); rw [HE1.out] at this; exact this
    have z2 : W1.cell? ⟨wr.heap.size, 3, none⟩ = some (.bool false) := by have := (hS1.cell 3 : W1.cell? ⟨wr.heap.size, 3, none⟩ = some (.bool mu)); rw [HE2.out] at this; exact this
    have zl := hS1.lt
    clear hT1 h0
    have hB2 := hS2.only.size
    go_wp2_with (at_builtin; refine wpSl rfl _ _ rfl w0.heap.size la T1 [wView] _ 1 1 W1.heap.size rfl rfl (hS2.own.alloc _) rfl rfl (news_ok (strC [wView]) 9 W1) (by decide) (by omega) (Nat.le_trans hB2 (by simp)) ?_)
    intro gd capd Wc hSx hod hgd
    have hSy := hSx.pre (aB (Below.refl _ _) _)
    have hS1b := hS1.onlyS hSy.only (hS1.neS (by decide) hS2.own)
    have hS3 := hS2.trans hSy
    obtain ⟨lc, hlc⟩ : ∃ lc, lc = Value.slice (some ⟨gd, 0, none⟩) (T1.length + 1) capd := ⟨_, rfl⟩
    rw [← hlc] at hS3 ⊢
    obtain ⟨T2, hT2⟩ : ∃ T2, T2 = T1 ++ wordR ⟨nm, bu, sc, mu⟩ := ⟨_, rfl⟩
    replace hS3 : Sl w0.heap.size w0 Wc (.slice none 0 0) lc T2 := by rw [hT2, hwd]; exact hS3
    have hT2l : T2.length ≤ 4002 := by rw [hT2, hwd]; simp; omega
    have HT2 := Lib.hid hT2
    clear hT2 hwd hlc hod hgd hSx hSy hS1 z1 z2 zl
    have hS1 := hS1b
    have zl := hS1.lt
    clear hS1b
    go_wp2
   case' pos.inr.inr.inr.inr =>
    have hwd : wordR ⟨nm, bu, sc, mu⟩ = [wView] := by simp [wordR, HE1.out, HE2.out]
    obtain ⟨T1, hT1⟩ : ∃ T1, T1 = T0 ++ (if j = 0 then [] else [[44]]) := ⟨_, rfl⟩
    have hj0 : (0 : Int) < (j : Int) := by omega
    have h0n : ¬ j = 0 := by omega
    have z1 : W1.cell? ⟨wr.heap.size, 1, none⟩ = some (.bool true) := by have := (hS1.cell 1 : W1.cell? ⟨wr.heap.size, 1, none⟩ = some (.bool bu)); rw [HE1.out] at this; exact this
    have z2 : W1.cell? ⟨wr.heap.size, 3, none⟩ = some (.bool false) := by have := (hS1.cell 3 : W1.cell? ⟨wr.heap.size, 3, none⟩ = some (.bool mu)); rw [HE2.out] at this; exact this
    have zl := hS1.lt
    go_wp2_with (at_builtin; refine wpSl rfl _ _ rfl w0.heap.size la T0 [[44]] _ 1 1 W1.heap.size rfl rfl (hSW.own.alloc _) rfl rfl (news_ok (strC [[44]]) 9 W1) (by decide) (by omega) (Nat.le_trans hSW.only.size (by simp)) ?_)
    intro gc capc Wb hSx hoc hgc
    have hSy := hSx.pre (aB (Below.refl _ _) _)
    have hS1b := hS1.onlyS hSy.only (hS1.neS (by decide) hSW.own)
    have hS2 := hSW.trans hSy
    obtain ⟨lb, hlb⟩ : ∃ lb, lb = Value.slice (some ⟨gc, 0, none⟩) (T0.length + 1) capc := ⟨_, rfl⟩
    rw [← hlb] at hS2 ⊢
    replace hS2 : Sl w0.heap.size w0 Wb (.slice none 0 0) lb T1 := by rw [hT1, if_neg h0n]; exact hS2
    have hT1l : T1.length ≤ 4001 := by rw [hT1, if_neg h0n]; simp; omega
    have HT1 := Lib.hid hT1
    clear z1 z2 zl hS1 hSx hSy hoc hgc
    have hS1 := hS1b
    have z1 : Wb.cell? ⟨wr.heap.size, 1, none⟩ = some (.bool true) := by have := (hS1.cell 1 : Wb.cell? ⟨wr.heap.size, 1, none⟩ = some (.bool bu)); rw [HE1.out] at this; exact this
    have z2 : Wb.cell? ⟨wr.heap.size, 3, none⟩ = some (.bool false) := by have := (hS1.cell 3 : Wb.cell? ⟨wr.heap.size, 3, none⟩ = some (.bool mu)); rw [HE2.out] at this; exact this
    have zl := hS1.lt
    clear hT1 h0 h0n hS1b hlb
    have hB2 := hS2.only.size
    go_wp2_with (at_builtin; refine wpSl rfl _ _ rfl w0.heap.size lb T1 [wView] _ 1 1 Wb.heap.size rfl rfl (hS2.own.alloc _) rfl rfl (news_ok (strC [wView]) 9 Wb) (by decide) (by omega) (Nat.le_trans hB2 (by simp)) ?_)
    intro gd capd Wc hSx hod hgd
    have hSy := hSx.pre (aB (Below.refl _ _) _)
    have hS1b := hS1.onlyS hSy.only (hS1.neS (by decide) hS2.own)
    have hS3 := hS2.trans hSy
    obtain ⟨lc, hlc⟩ : ∃ lc, lc = Value.slice (some ⟨gd, 0, none⟩) (T1.length + 1) capd := ⟨_, rfl⟩
    rw [← hlc] at hS3 ⊢
    obtain ⟨T2, hT2⟩ : ∃ T2, T2 = T1 ++ wordR ⟨nm, bu, sc, mu⟩ := ⟨_, rfl⟩
    replace hS3 : Sl w0.heap.size w0 Wc (.slice none 0 0) lc T2 := by rw [hT2, hwd]; exact hS3
    have hT2l : T2.length ≤ 4002 := by rw [hT2, hwd]; simp; omega
    have HT2 := Lib.hid hT2
    clear hT2 hwd hlc hod hgd hSx hSy hS1 z1 z2 zl
    have hS1 := hS1b
    have zl := hS1.lt
    clear hS1b
    go_wp2
   all_goals
    have hoC := hS3.own
    have hnc := hS1.neS (by decide) hoC
    have hB3 := hS3.only.size
    have hFi : ∀ w', Only (fun j => lc.ownBlock = some j) Wc w' → w'.cell? ⟨wr.heap.size, 2, none⟩ = some (.bool sc) ∧ w'.cell? ⟨wr.heap.size, 0, none⟩ = some (.string (str nm)) := fun w' h => ⟨(hS1.onlyS h hnc).cell 2, (hS1.onlyS h hnc).cell 0⟩
    have hF0 : Only (fun j => lc.ownBlock = some j) Wc Wc.drew := od1
    have hdw : Below Wc.heap.size Wc Wc.drew := ⟨rfl, rfl, rfl, Nat.le_refl _, fun _ _ => rfl⟩
    refine region_KN (fun w' => Only (fun j => lc.ownBlock = some j) Wc w') (by kernel_rfl) ?_
    have q : Pq [0, 1, 2, 4, 5] := trivial
    iterate 5
     refine tkN q rfl (by kernel_rfl) hF0 fun K hK => ?_
     replace q := q.tl
     apply Exists.intro
     refine ⟨Or.inl ⟨by kernel_rfl, fun w' hf => ?_⟩, ?_⟩
     ·obtain ⟨s2, s0⟩ := hFi _ hf
      go_simp
      try exact rfl
     go_simp
     refine hK _ ?_
     clear hK K
    clear hFi q
    apply wpAnyK_two (k1 := 3) (k2 := 6) (by kernel_rfl)
    case' h1 =>
     refine wpOp_step rfl (fun K hK => ?_)
     go_simp
     go_at_call 32
     refine (rsecret9 sc w0.heap.size lc T2 Wc.drew (own_of hoC hdw) hB3 (by omega)).mono ?_
     rintro r v1 ⟨l2, rfl, hSv⟩
     have hA := (hSv.pre hdw).post (aB (Below.refl _ _) (.cells (strC [nm]).toArray 9))
     have hnw := news_ok (strC [nm]) 9 v1
     refine hK _ _ ⟨(hSv.pre hdw).only, ?_⟩
     clear hK K
     refine wpAnyK_one (k := 6) (by kernel_rfl) ?_
     refine wpOp_step rfl (fun K hK => ?_)
     go_simp
     refine hK _ _ ⟨hA.only, ?_⟩
     clear hK K hSv
    case' h2 =>
     refine wpOp_step rfl (fun K hK => ?_)
     go_simp
     refine hK _ _ ⟨hF0.trans (only_below (aB (Below.refl _ _) _)), ?_⟩
     clear hK K
     refine wpAnyK_one (k := 3) (by kernel_rfl) ?_
     refine wpOp_step rfl (fun K hK => ?_)
     go_simp
     go_at_call 32
     refine (rsecret9 sc w0.heap.size lc T2 (Wc.drew.alloc (.cells (strC [nm]).toArray 9)) ((own_of hoC hdw).alloc _) (Nat.le_trans hB3 (by simp)) (by omega)).mono ?_
     rintro r v1 ⟨l2, rfl, hSv⟩
     have hA := hSv.pre (aB hdw _)
     have hnw : ∀ (j : Nat) (u : Value), (strC [nm])[j]? = some u → v1.cell? ((⟨Wc.drew.heap.size, 0, none⟩ : Addr).add j) = some u := fun j u h => by
      have h0 := news_ok (strC [nm]) 9 Wc.drew j u h
      rw [addp] at h0 ⊢
      exact hSv.only.cell (own_new' hoC (.inl (Nat.le_refl _))) h0
     refine hK _ _ ⟨hA.only, ?_⟩
     clear hK K hSv
    all_goals
     refine wpAnyK_one (k := 7) (by kernel_rfl) ?_
     refine wpOp_step rfl (fun K hK => ?_)
     have hsl := secR_len sc
     obtain ⟨T3, hT3⟩ : ∃ T3, T3 = T2 ++ secR sc := ⟨_, rfl⟩
     have hT3l : T3.length ≤ 4003 := by rw [hT3, List.length_append]; omega
     rw [← hT3] at hA
     have HT3 := Lib.hid hT3
     clear hT3
     refine stSl rfl _ _ rfl w0.heap.size l2 T3 [nm] _ 1 1 _ rfl rfl hA.own rfl rfl hnw (by decide) (by omega) (Nat.le_trans hB3 hA.only.size) ?_
     intro g cap V5 hS5 hg5
     have hS6 := hA.trans hS5
     refine hK _ _ ⟨hS6.only, ?_⟩
     clear hK K
     refine wpAnyK_one (k := 8) (by kernel_rfl) ?_
     refine wpOp_step rfl (fun K hK => ?_)
     go_simp
     refine hK _ _ ⟨hS6.only, ?_⟩
     clear hK K
     refine wpAnyK_done (by kernel_rfl) ⟨rfl, ?_⟩
     have hS7 : Sl w0.heap.size w0 V5 (.slice none 0 0) (.slice (some ⟨g, 0, none⟩) (T3.length + 1) cap) (psR (ps.take (j + 1))) := by
      rw [HTK.out, ← HT0.out, ← HT1.out, ← HT2.out, ← HT3.out]
      exact hS3.trans hS6
     clear hS6 hS5 hA hnw hF0 hdw hoC
     go_wp2
     go_roundw
     case rel => exact ⟨j + 1, _, by omega, by go_num, rfl, hS7⟩
     case measure => simp [intOf]; omega
  ·obtain rfl : j = n := by omega
   rw [List.take_of_length_le (by rw [HN.out]; exact Nat.le_refl _)] at hSa
   go_wp2
   go_ret
   exact ⟨_, rfl, hSa⟩
end Go.Proofs.YtfbjljcmmbdhkaaGreatDoor
