/- Contracts of lex.Cut, of what a statement asks of its answer (Told, Same, Bare), and of lex.Named. -/
import Derived.Test.YtfbjljcmmbdhkaaGreatDoorT08
import Derived.Test.YtfbjljcmmbdhkaaGreatDoorT03
import Derived.RangeFuncBox
import Derived.Test.YtfbjljcmmbdhkaaGreatDoorT00
namespace Go.Proofs.YtfbjljcmmbdhkaaGreatDoor
set_option linter.unusedVariables false
set_option linter.unusedSimpArgs false
set_option maxRecDepth 100000
set_option maxHeartbeats 200000000
open Go.ChangeShapes Go.WideShapes Go.ChangeAt Go.RowKit
theorem below_trans' {B : Nat} {W w w' : World} (h : Below B W w) (hB : B ≤ W.heap.size) (hb : Below w.heap.size w w') : Below B W w' := h.trans (hb.mono (Nat.le_trans hB h.size))
def TokV (w : World) (B : Nat) (v : Value) (T : List (Tk × Nat)) : Prop := w.ownsRow B 95 4 v T.length (cellsT T)
theorem scan_er (s : ByteArray) (e0 a : Nat) (w : World) (hT : Tb w) (hR : lexT s.data.toList = .er e0 a) :
 Calls Tryz.prog 60 #[.string s] w fun e w' => e = .returned (.tuple #[.slice none 0 0, .int .i64 (a : Int), .iface 28 (.int .i64 (e0 : Int))]) ∧ Below w.heap.size w w' := by
 unfold lexT at hR
 have hl : s.data.toList.length = s.size := by simp
 by_cases h : 16384 < s.data.toList.length
 ·rw [if_pos h] at hR
  cases hR
  rw [hl] at h
  go_enter Tryz.func60, Tryz.ntmps60
  go_wp2
  go_step3
  go_wp2
  rw [Exit.noGoto_ret]
  exact bodyPost_ret (v := .tuple #[.slice none 0 0, .int .i64 0, .iface 28 (.int .i64 5)]) (by simp [results, Tryz.results60, go_sem]) rfl ⟨rfl, ((Below.refl _ _).alloc (Nat.le_refl _) _).alloc (by simp) _⟩
 ·rw [if_neg h] at hR
  rw [hl] at hR h
  refine (scan_any s _ w (by omega) hT hR).mono fun e w' h => ?_
  exact h
theorem scan_ok (s : ByteArray) (T : List (Tk × Nat)) (w : World) (hT : Tb w) (hR : lexT s.data.toList = .ok T) :
 Calls Tryz.prog 60 #[.string s] w fun e w' => (∃ v, e = .returned (.tuple #[v, .int .i64 (s.size : Int), .nilIface]) ∧ TokV w' w.heap.size v T) ∧ Below w.heap.size w w' := by
 unfold lexT at hR
 have hl : s.data.toList.length = s.size := by simp
 by_cases h : 16384 < s.data.toList.length
 ·rw [if_pos h] at hR; cases hR
 ·rw [if_neg h] at hR
  rw [hl] at hR h
  refine (scan_any s _ w (by omega) hT hR).mono fun e w' h => ?_
  exact h
theorem cut_ok (s : ByteArray) (T : List (Tk × Nat)) (w : World) (hT : Tb w) (hR : lexT s.data.toList = .ok T) :
 Calls Tryz.prog 35 #[.string s] w fun e w' => (∃ v, e = .returned (.tuple #[v, .nilIface]) ∧ TokV w' w.heap.size v T) ∧ Below w.heap.size w w' := by
 have hS := scan_ok s T w hT hR
 go_enter Tryz.func35, Tryz.ntmps35
 go_wp2_with (first | (go_at_call 60; ((with_reducible refine hS.mono ?_); rintro e w1 ⟨⟨v, rfl, hv⟩, hb⟩)) | (go_at_call 61; ((with_reducible refine (as_nil _ _).mono ?_); rintro e w2 ⟨rfl, rfl⟩)))
 go_ret2
 exact ⟨⟨v, rfl, hv.alloc _⟩, hb.alloc hb.size _⟩
theorem cut_er (s : ByteArray) (e0 a : Nat) (w : World) (hT : Tb w) (hR : lexT s.data.toList = .er e0 a) :
 Calls Tryz.prog 35 #[.string s] w fun e w' => e = .returned (.tuple #[.slice none 0 0, .iface 115 (.agg #[.int .i64 (a : Int), .int .i64 (e0 : Int)])]) ∧ Below w.heap.size w w' := by
 have hS := scan_er s e0 a w hT hR
 go_enter Tryz.func35, Tryz.ntmps35
 go_wp2_with (first | (go_at_call 60; ((with_reducible refine hS.mono ?_); rintro e w1 ⟨rfl, hb⟩)) | (go_at_call 61; ((with_reducible refine (as_En (e0 : Int) w1.heap.size (.int .i64 0) _ ?cg ?ct ?cf).mono ?_)); (case cg => exact ((hT.of hb).alloc _).ety); (case ct => simp); (case cf => simp); rintro e w2 ⟨rfl, rfl⟩))
 go_quiet (fail)
 go_wp2
 go_ret2
 refine ⟨rfl, ?_⟩
 have hA : Below w.heap.size w (((((w1.alloc (.cells #[.int .i64 (e0 : Int)] 28)).alloc (.cells #[.pointer (some ⟨w1.heap.size, 0, none⟩)] 113)).alloc (.cells #[.pointer (some ⟨12, 113, none⟩), .pointer (some ⟨w1.heap.size + 1, 0, none⟩), .int .u64 150] 146)).alloc (.cells #[.pointer (some ⟨12, 113, none⟩), .pointer (some ⟨w1.heap.size + 1, 0, none⟩), .int .u64 150] 146)).alloc (.cells #[.int .i64 (e0 : Int)] 28)) := by
  have := hb.size
  exact ((((hb.alloc hb.size _).alloc (by simp; omega) _).alloc (by simp; omega) _).alloc (by simp; omega) _).alloc (by simp; omega) _
 exact bdN hA _
structure RowAt (w : World) (v : Value) (T : List (Tk × Nat)) : Prop where
 row : ∃ (b o n c : Nat) , v = .slice (some ⟨b, o, none⟩) n c ∧ n = T.length ∧ b < w.heap.size ∧ ∀ i (h : i < T.length), w.cell? ⟨b, o + i * 4, none⟩ = some (.int .u8 (T[i].1.k : Int)) ∧ w.cell? ⟨b, o + i * 4 + 1, none⟩ = some (.string (str T[i].1.t)) ∧ w.cell? ⟨b, o + i * 4 + 2, none⟩ = some (.int .u64 (T[i].1.n : Int)) ∧ w.cell? ⟨b, o + i * 4 + 3, none⟩ = some (.int .i64 (T[i].2 : Int))
theorem cellsT_at : ∀ (l : List (Tk × Nat)) (i : Nat) (h : i < l.length), (cellsT l)[i * 4]? = some (.int .u8 (l[i].1.k : Int)) ∧ (cellsT l)[i * 4 + 1]? = some (.string (str l[i].1.t)) ∧ (cellsT l)[i * 4 + 2]? = some (.int .u64 (l[i].1.n : Int)) ∧ (cellsT l)[i * 4 + 3]? = some (.int .i64 (l[i].2 : Int)) := by
 intro l
 induction l with
 | nil => intro i h; simp at h
 | cons x l ih =>
  intro i h
  cases i with
  | zero => simp [cellsT]
  | succ i =>
   have e : ∀ r, (cellsT (x :: l))[(i + 1) * 4 + r]? = (cellsT l)[i * 4 + r]? := fun r => by
    rw [cellsT, List.flatMap_cons, List.getElem?_append_right (by simp; omega)]
    congr 1
    simp
    omega
   obtain ⟨a0, a1, a2, a3⟩ := ih i (by simpa using h)
   exact ⟨(e 0).trans a0, (e 1).trans a1, (e 2).trans a2, (e 3).trans a3⟩
theorem TokV.at {w : World} {B : Nat} {v : Value} {T : List (Tk × Nat)} (h : TokV w B v T) (hne : T ≠ []) : RowAt w v T := by
 unfold TokV at h
 have hlen : 0 < T.length := List.length_pos_iff.2 hne
 obtain ⟨m, hm⟩ : ∃ m, T.length = m + 1 := ⟨T.length - 1, by omega⟩
 have h2 := h
 rw [hm] at h2
 obtain ⟨g, cap, hv⟩ := ownsRow_succ h2
 subst hv
 refine ⟨g, 0, m + 1, cap, rfl, hm.symm, ?_, fun i hi => ?_⟩
 ·have := h2.cellAt 0 (by omega)
  have h3 := (cellsT_at T 0 hlen).1
  rw [Nat.zero_mul] at h3
  exact World.block_lt_of_cell? w _ (this.trans h3)
 ·obtain ⟨a0, a1, a2, a3⟩ := cellsT_at T i hi
  rw [Nat.zero_add]
  exact ⟨(h2.cellAt (i * 4) (by omega)).trans a0, (h2.cellAt (i * 4 + 1) (by omega)).trans a1, (h2.cellAt (i * 4 + 2) (by omega)).trans a2, (h2.cellAt (i * 4 + 3) (by omega)).trans a3⟩
theorem RowAt.of {w w' : World} {v : Value} {T : List (Tk × Nat)} (h : RowAt w v T) (hb : Below w.heap.size w w') : RowAt w' v T := by
 obtain ⟨b, o, n, c, rfl, hn, hl, hc⟩ := h.row
 refine ⟨b, o, n, c, rfl, hn, Nat.lt_of_lt_of_le hl hb.size, fun i hi => ?_⟩
 obtain ⟨a0, a1, a2, a3⟩ := hc i hi
 exact ⟨stay hb a0, stay hb a1, stay hb a2, stay hb a3⟩
theorem aB {w w1 : World} (h : Below w.heap.size w w1) (o : Obj) : Below w.heap.size w (w1.alloc o) := h.alloc h.size o
theorem aB2 {w w1 : World} (h : Below w.heap.size w w1) (o : Obj) : Below w.heap.size w (w1.alloc o) := h.alloc h.size o
theorem tr {w w1 w2 : World} (h : Below w.heap.size w w1) (h2 : Below w1.heap.size w1 w2) : Below w.heap.size w w2 := h.trans (h2.mono h.size)
theorem str_eq_iff (l : List UInt8) (s : ByteArray) : ((str l).toList == s.toList) = decide (l = s.data.toList) := by
 rw [ByteArray.toList_eq, ByteArray.toList_eq, str_list, Bool.eq_iff_iff]; simp
theorem nmd_any (s : ByteArray) (w : World) (hT : Tb w) : Calls Tryz.prog 56 #[.string s] w fun e w' => e = .returned (.bool (nmdB s.data.toList)) ∧ Below w.heap.size w w' := by
 cases hl : lexT s.data.toList with
 | er e0 a =>
  have hC := cut_er s e0 a w hT hl
  have hn : nmdB s.data.toList = false := by unfold nmdB; rw [hl]
  rw [hn]
  clear hn hl
  go_enter Tryz.func56, Tryz.ntmps56
  go_wp2_with (go_at_call 35; ((with_reducible refine hC.mono ?_); rintro e w1 ⟨rfl, hb⟩))
  go_ret
  exact ⟨rfl, hb⟩
 | ok T =>
  have hC := cut_ok s T w hT hl
  have hne : T ≠ [] := by
   unfold lexT at hl
   split at hl
   ·cases hl
   ·exact lex_ne hl
  obtain ⟨⟨⟨xk, xt, xn⟩, xa⟩, T', rfl⟩ := List.exists_cons_of_ne_nil hne
  have hn : nmdB s.data.toList = (decide (xk = 1) && decide (xt = s.data.toList)) := by unfold nmdB; rw [hl]
  rw [hn]
  clear hn hl
  have hC' : Calls Tryz.prog 35 #[.string s] w fun e w' => (∃ (b o n c : Nat), e = .returned (.tuple #[.slice (some ⟨b, o, none⟩) n c, .nilIface]) ∧ 0 < n ∧ b < w'.heap.size ∧ w'.cell? ⟨b, o, none⟩ = some (.int .u8 (xk : Int)) ∧ w'.cell? ⟨b, o + 1, none⟩ = some (.string (str xt))) ∧ Below w.heap.size w w' :=
   hC.mono fun e w' h => by
    obtain ⟨⟨v, he, hv⟩, hb⟩ := h
    obtain ⟨b, o, n, c, rfl, hn, hlt, hc⟩ := (hv.at (by simp)).row
    obtain ⟨c0, c1, _, _⟩ := hc 0 (by simp)
    exact ⟨⟨b, o, n, c, he, by rw [hn]; simp, hlt, by simpa using c0, by simpa using c1⟩, hb⟩
  clear hC
  have hte := str_eq_iff xt s
  go_enter Tryz.func56, Tryz.ntmps56
  by_cases hk : xk = 1
  ·subst hk
   by_cases ht : xt = s.data.toList
   ·rw [decide_eq_true ht] at hte
    have HTE := Lib.hid ht
    clear ht
    go_wp2_with (go_at_call 35; ((with_reducible refine hC'.mono ?_); rintro e w1 ⟨⟨b, o, n, c, rfl, hn0, hlt, c0, c1⟩, hb⟩))
    go_ret
    exact ⟨by rw [decide_eq_true HTE.out]; rfl, hb⟩
   ·rw [decide_eq_false ht] at hte
    go_wp2_with (go_at_call 35; ((with_reducible refine hC'.mono ?_); rintro e w1 ⟨⟨b, o, n, c, rfl, hn0, hlt, c0, c1⟩, hb⟩))
    go_ret
    exact ⟨rfl, hb⟩
  ·have hk' : ((xk : Int) == 1) = false := by simp only [beq_eq_false_iff_ne]; omega
   clear hte
   go_wp2_with (go_at_call 35; ((with_reducible refine hC'.mono ?_); rintro e w1 ⟨⟨b, o, n, c, rfl, hn0, hlt, c0, c1⟩, hb⟩))
   go_ret
   exact ⟨by first | rfl | (rw [decide_eq_false hk]; rfl), hb⟩
def exT : List (Tk × Nat) := [(⟨1, [97, 49], 0⟩, 0), (⟨4, [60, 60], 0⟩, 2), (⟨3, [], 2⟩, 4), (⟨4, [59], 0⟩, 5), (⟨5, [], 0⟩, 6)]
theorem infoS : (Tryz.prog.info? 9).map (fun i => (i.zero, i.size, i.bytes)) = some (some (.string ⟨#[]⟩), 1, 16) := by kernel_rfl
def strV (l : List (List UInt8)) : List Value := l.map fun x => .string (str x)
theorem strV_snoc (l : List (List UInt8)) (x : List UInt8) : strV (l ++ [x]) = strV l ++ [.string (str x)] := by simp [strV]
theorem pcs_len (l : List Tk) : (pcs l).length ≤ l.length := by
 induction l with
 | nil => simp [pcs]
 | cons t l ih =>
  have e : pcs (t :: l) = (if 1 ≤ t.k ∧ t.k ≤ 4 then [t.piece] else []) ++ pcs l := by simp [pcs]
  rw [e, List.length_append, List.length_cons]
  split <;> simp <;> omega
theorem join_of_row {w : World} {B : Nat} {v : Value} (l : List (List UInt8)) (h : w.ownsRow B 9 1 v l.length (strV l)) (hl : l.length ≤ 1000000) (hj : (Lib.join l [32]).length ≤ 140737488355328) :
 Calls Tryz.prog 46 #[v, .string ⟨#[32]⟩] w fun e w' => e = .returned (.string (str (Lib.join l [32]))) ∧ Below w.heap.size w w' := by
 by_cases h0 : l = []
 ·subst h0
  have hv : ∃ (a : Option Addr) (c : Nat), v = .slice a 0 c := by
   rcases h.2 with ⟨h1, _⟩ | ⟨g, cap, cur, hv, _⟩
   ·exact ⟨_, _, h1⟩
   ·exact ⟨_, _, hv⟩
  obtain ⟨a, c, rfl⟩ := hv
  exact (Lstrings_Join_none a c ⟨#[32]⟩ w).mono fun e w' h => ⟨h.1, by rw [h.2]; exact Below.refl _ _⟩
 ·obtain ⟨m, hm⟩ : ∃ m, l.length = m + 1 := ⟨l.length - 1, by have := List.length_pos_iff.2 h0; omega⟩
  have h2 := h
  rw [hm] at h2
  obtain ⟨g, cap, hv⟩ := ownsRow_succ h2
  subst hv
  have hc : ∀ (j : Nat) x, (l.map str)[j]? = some x → w.cell? ⟨g, 0 + j, none⟩ = some (.string x) := fun j x hx => by
   have hj' : j < l.length := by have := (List.getElem?_eq_some_iff.1 hx).1; simpa using this
   rw [Nat.zero_add, h2.cellAt j (by omega)]
   rw [List.getElem?_map] at hx
   simp only [strV, List.getElem?_map]
   cases hq : l[j]? with
   | none => rw [hq] at hx; cases hx
   | some y => rw [hq] at hx; cases hx; rfl
  have hml : (l.map str).map (fun x : ByteArray => x.data.toList) = l := by
   rw [List.map_map]
   conv => rhs; rw [← List.map_id l]
   apply List.map_congr_left
   intro x _
   exact str_list x
  have hblt : g < w.heap.size := by
   exact (h2.lt g rfl).2
  have hcap : m + 1 ≤ cap := by
   rcases h2.2 with ⟨h1, _⟩ | ⟨g', cap', cur, hv, _, _, hr, _⟩
   ·cases h1
   ·cases hv; exact hr
  have := Lstrings_Join g 0 cap (l.map str) ⟨#[32]⟩ w hc hblt (by simp; omega) (by simp; omega) (by rw [hml]; exact hj)
  rw [hml, List.length_map, hm] at this
  exact this
def KOk (T : List (Tk × Nat)) : Prop := ∀ x ∈ T, (x.1.k = 1 ∨ x.1.k = 2 ∨ x.1.k = 3 ∨ x.1.k = 4 ∨ x.1.k = 5) ∧ x.1.n < 18446744073709551616
theorem join_any (v : Value) (T : List (Tk × Nat)) (w : World) (h1 : RowAt w v T) (hn : T.length ≤ 1000000) (hk : KOk T) (hj : (joinT (bare T)).length ≤ 100000000000) (hT : Tb w) :
 Calls Tryz.prog 22 #[v] w fun e w' => e = .returned (.string (str (joinT (bare T)))) ∧ Below w.heap.size w w' := by
 obtain ⟨b1, o1, n1, c1, rfl, hn1, hl1, hc1⟩ := h1.row
 obtain ⟨i0, hi, hz0, hz1, hz2⟩ := info_parts infoS
 have HC1 := Lib.hid hc1
 have HK := Lib.hid hk
 obtain ⟨N, hN⟩ : ∃ N, T.length = N := ⟨_, rfl⟩
 rw [hN] at hn hn1
 subst hn1
 have HN := Lib.hid hN
 clear hc1 h1 hN hk
 go_enter Tryz.func22, Tryz.ntmps22
 go_wp2
 go_loopw [3, 8] (fun r i wr => ∃ k : Nat, k ≤ n1 ∧ i = .int .i64 k ∧ wr.ownsRow w.heap.size 9 1 r (pcs (bare (T.take k))).length (strV (pcs (bare (T.take k)))) ∧ Below w.heap.size w wr) (fun _ i _ => n1 - (intOf i).toNat)
 case atStart => exact ⟨0, Nat.zero_le _, rfl, World.ownsRow_nil _ _ _ _, Below.refl _ _⟩
 case round =>
  obtain ⟨k, hkn, rfl, ho, hB⟩ := hrel
  by_cases hlt : k < n1
  ·have hlt' : k < T.length := by rw [HN.out]; exact hlt
   obtain ⟨p0, p1, p2, p3⟩ := HC1.out k hlt'
   have q0 := stay hB p0
   have q1 := stay hB p1
   have q2 := stay hB p2
   have q3 := stay hB p3
   have hl2 : b1 < wr.heap.size := Nat.lt_of_lt_of_le hl1 hB.size
   obtain ⟨hkk, hnn⟩ := HK.out T[k] (List.getElem_mem hlt')
   have hsn : pcs (bare (T.take (k + 1))) = pcs (bare (T.take k)) ++ pcs [T[k].1] := by
    have hb : bare (T.take (k + 1)) = bare (T.take k) ++ [T[k].1] := by unfold bare; rw [List.take_succ_eq_append_getElem hlt', List.map_append]; rfl
    rw [hb, pcs_app]
   have hpl : (pcs (bare (T.take k))).length ≤ 1000000 := by
    have := pcs_len (bare (T.take k))
    have h2 : (bare (T.take k)).length ≤ T.length := by simp only [bare, List.length_map, List.length_take]; omega
    have := HN.out
    omega
   have HSN := Lib.hid hsn
   clear hsn p0 p1 p2 p3
   generalize T[k] = x at q0 q1 q2 q3 hkk hnn HSN
   obtain ⟨⟨xk, xt, xn⟩, xa⟩ := x
   simp only at q0 q1 q2 q3 hkk hnn
   obtain ⟨M, hM⟩ : ∃ M, M = (pcs (bare (T.take k))).length := ⟨_, rfl⟩
   obtain ⟨L, hL⟩ : ∃ L, L = strV (pcs (bare (T.take k))) := ⟨_, rfl⟩
   rw [← hM, ← hL] at ho
   rw [← hM] at hpl
   have HM := Lib.hid hM
   have HL := Lib.hid hL
   clear hM hL
   rcases hkk with rfl | rfl | rfl | rfl | rfl
   ·have hP : pcs [⟨1, xt, xn⟩] = [xt] := rfl
    rw [hP] at HSN
    go_wp2_with (at_builtin; refine wpList_append_own _ rfl _ _ 50 rfl w.heap.size 9 i0 _ 1 16 Tryz.underlying50 hi hz0 hz1 hz2 rfl (by decide) _ M L rfl ((ho.alloc _).alloc _) ⟨wr.heap.size + 1, 0, none⟩ 1 1 [.string (str (xt))] rfl rfl ?cN ?c0 ?c1 ?c2 ?c3 ?_)
    case cN => have hN2 := news_ok [.string (str xt)] 9 (wr.alloc (.cells #[.int .u8 1, .string (str xt), .int .u64 (xn : Int), .int .i64 (xa : Int)] 95)); rw [World.size_alloc] at hN2; exact hN2
    case c0 => intro u hu; simp at hu; subst hu; rfl
    case c1 => unfold maxLen; omega
    case c2 => omega
    case c3 => have h1 := hB.size; simp; omega
    intro v' w3 ho' hgr _
    have hBA : Below w.heap.size w ((wr.alloc (.cells #[.int .u8 1, .string (str xt), .int .u64 (xn : Int), .int .i64 (xa : Int)] 95)).alloc (.cells #[.string (str xt)] 9)) := aB2 (aB2 hB _) _
    have hB3 : Below w.heap.size w w3 := hBA.grown hgr hBA.size (fun j hj => (ho.lt j hj).1)
    have ho3 : w3.ownsRow w.heap.size 9 1 v' (pcs (bare (T.take (k + 1)))).length (strV (pcs (bare (T.take (k + 1))))) := by rw [HSN.out, List.length_append, strV_snoc, ← HM.out, ← HL.out]; exact ho'
    clear ho' hgr ho
    go_wp2
    go_roundw
    case rel => exact ⟨k + 1, by omega, by go_num, ho3, hB3⟩
    case measure => first | (simp [intOf]; done) | (simp [intOf]; omega)
   ·have hP : pcs [⟨2, xt, xn⟩] = [xt] := rfl
    rw [hP] at HSN
    go_wp2_with (at_builtin; refine wpList_append_own _ rfl _ _ 50 rfl w.heap.size 9 i0 _ 1 16 Tryz.underlying50 hi hz0 hz1 hz2 rfl (by decide) _ M L rfl ((ho.alloc _).alloc _) ⟨wr.heap.size + 1, 0, none⟩ 1 1 [.string (str (xt))] rfl rfl ?cN ?c0 ?c1 ?c2 ?c3 ?_)
    case cN => have hN2 := news_ok [.string (str xt)] 9 (wr.alloc (.cells #[.int .u8 2, .string (str xt), .int .u64 (xn : Int), .int .i64 (xa : Int)] 95)); rw [World.size_alloc] at hN2; exact hN2
    case c0 => intro u hu; simp at hu; subst hu; rfl
    case c1 => unfold maxLen; omega
    case c2 => omega
    case c3 => have h1 := hB.size; simp; omega
    intro v' w3 ho' hgr _
    have hBA : Below w.heap.size w ((wr.alloc (.cells #[.int .u8 2, .string (str xt), .int .u64 (xn : Int), .int .i64 (xa : Int)] 95)).alloc (.cells #[.string (str xt)] 9)) := aB2 (aB2 hB _) _
    have hB3 : Below w.heap.size w w3 := hBA.grown hgr hBA.size (fun j hj => (ho.lt j hj).1)
    have ho3 : w3.ownsRow w.heap.size 9 1 v' (pcs (bare (T.take (k + 1)))).length (strV (pcs (bare (T.take (k + 1))))) := by rw [HSN.out, List.length_append, strV_snoc, ← HM.out, ← HL.out]; exact ho'
    clear ho' hgr ho
    go_wp2
    go_roundw
    case rel => exact ⟨k + 1, by omega, by go_num, ho3, hB3⟩
    case measure => first | (simp [intOf]; done) | (simp [intOf]; omega)
   ·have hP : pcs [⟨3, xt, xn⟩] = [Lib.decDigits xn] := rfl
    rw [hP] at HSN
    have hD := digitsOf_any xn hnn (wr.alloc (.cells #[.int .u8 3, .string (str xt), .int .u64 (xn : Int), .int .i64 (xa : Int)] 95)) ((hT.of hB).alloc _).pow
    go_wp2_with (first | (go_at_call 45; ((with_reducible refine hD.mono ?_); (rintro e w5 ⟨rfl, hb5⟩); have ho5 := own_of (ho.alloc _) hb5; have hB5 : Below w.heap.size w w5 := (aB2 hB _).trans (hb5.mono (by have := hB.size; simp; omega)); have hg5 : wr.heap.size < w5.heap.size := (by have := hb5.size; simp at this; omega))) | (at_builtin; refine wpList_append_own _ rfl _ _ 50 rfl w.heap.size 9 i0 _ 1 16 Tryz.underlying50 hi hz0 hz1 hz2 rfl (by decide) _ M L rfl (ho5.alloc _) ⟨w5.heap.size, 0, none⟩ 1 1 [.string (str (Lib.decDigits xn))] rfl rfl ?cN ?c0 ?c1 ?c2 ?c3 ?_))
    case cN => exact news_ok [.string (str (Lib.decDigits xn))] 9 w5
    case c0 => intro u hu; simp at hu; subst hu; rfl
    case c1 => unfold maxLen; omega
    case c2 => omega
    case c3 => have h1 := hB.size; have h5 := hB5.size; simp; omega
    intro v' w3 ho' hgr _
    have hBA : Below w.heap.size w (w5.alloc (.cells #[.string (str (Lib.decDigits xn))] 9)) := aB2 hB5 _
    have hB3 : Below w.heap.size w w3 := hBA.grown hgr hBA.size (fun j hj => (ho.lt j hj).1)
    have ho3 : w3.ownsRow w.heap.size 9 1 v' (pcs (bare (T.take (k + 1)))).length (strV (pcs (bare (T.take (k + 1))))) := by rw [HSN.out, List.length_append, strV_snoc, ← HM.out, ← HL.out]; exact ho'
    clear ho' hgr ho hD
    go_wp2
    go_roundw
    case rel => exact ⟨k + 1, by omega, by go_num, ho3, hB3⟩
    case measure => first | (simp [intOf]; done) | (simp [intOf]; omega)
   ·have hP : pcs [⟨4, xt, xn⟩] = [xt] := rfl
    rw [hP] at HSN
    go_wp2_with (at_builtin; refine wpList_append_own _ rfl _ _ 50 rfl w.heap.size 9 i0 _ 1 16 Tryz.underlying50 hi hz0 hz1 hz2 rfl (by decide) _ M L rfl ((ho.alloc _).alloc _) ⟨wr.heap.size + 1, 0, none⟩ 1 1 [.string (str (xt))] rfl rfl ?cN ?c0 ?c1 ?c2 ?c3 ?_)
    case cN => have hN2 := news_ok [.string (str xt)] 9 (wr.alloc (.cells #[.int .u8 4, .string (str xt), .int .u64 (xn : Int), .int .i64 (xa : Int)] 95)); rw [World.size_alloc] at hN2; exact hN2
    case c0 => intro u hu; simp at hu; subst hu; rfl
    case c1 => unfold maxLen; omega
    case c2 => omega
    case c3 => have h1 := hB.size; simp; omega
    intro v' w3 ho' hgr _
    have hBA : Below w.heap.size w ((wr.alloc (.cells #[.int .u8 4, .string (str xt), .int .u64 (xn : Int), .int .i64 (xa : Int)] 95)).alloc (.cells #[.string (str xt)] 9)) := aB2 (aB2 hB _) _
    have hB3 : Below w.heap.size w w3 := hBA.grown hgr hBA.size (fun j hj => (ho.lt j hj).1)
    have ho3 : w3.ownsRow w.heap.size 9 1 v' (pcs (bare (T.take (k + 1)))).length (strV (pcs (bare (T.take (k + 1))))) := by rw [HSN.out, List.length_append, strV_snoc, ← HM.out, ← HL.out]; exact ho'
    clear ho' hgr ho
    go_wp2
    go_roundw
    case rel => exact ⟨k + 1, by omega, by go_num, ho3, hB3⟩
    case measure => first | (simp [intOf]; done) | (simp [intOf]; omega)
   ·have hP : pcs [⟨5, xt, xn⟩] = [] := rfl
    rw [hP, List.append_nil] at HSN
    go_wp2
    go_roundw
    case rel => exact ⟨k + 1, by omega, by go_num, by rw [HSN.out, ← HM.out, ← HL.out]; exact ho.alloc _, aB2 hB _⟩
    case measure => first | (simp [intOf]; done) | (simp [intOf]; omega)
  ·obtain rfl : k = n1 := by omega
   have hlb : (pcs (bare T)).length ≤ 1000000 := by
    have := pcs_len (bare T)
    have h2 : (bare T).length = T.length := by simp [bare]
    have := HN.out
    omega
   rw [List.take_of_length_le (by rw [HN.out]; exact Nat.le_refl _)] at ho
   have hJ := join_of_row (pcs (bare T)) ho hlb (by unfold joinT at hj; omega)
   have hjj : Lib.join (pcs (bare T)) [32] = joinT (bare T) := rfl
   rw [hjj] at hJ
   clear hjj ho
   go_wp2_with (go_at_call 46; ((with_reducible refine hJ.mono ?_); rintro e w2 ⟨rfl, hb2⟩))
   go_ret
   exact ⟨rfl, hB.trans (hb2.mono hB.size)⟩
theorem rletter_any (c : UInt8) (w : World) : Calls Tryz.prog 77 #[.int .u8 (c.toNat : Int)] w fun e w' => e = .returned (.bool (isL c)) ∧ w = w' := by
 go_enter Tryz.func77, Tryz.ntmps77
 go_wp2
 all_goals
  go_ret
  refine ⟨ret_b ?_, rfl⟩
  unfold isL
  rw [Bool.eq_iff_iff]
  simp
  omega
theorem rdigit_any (c : UInt8) (w : World) : Calls Tryz.prog 79 #[.int .u8 (c.toNat : Int)] w fun e w' => e = .returned (.bool (isD c)) ∧ w = w' := by
 go_enter Tryz.func79, Tryz.ntmps79
 go_wp2
 all_goals
  go_ret
  refine ⟨ret_b ?_, rfl⟩
  unfold isD
  rw [Bool.eq_iff_iff]
  simp
  omega
def TxAt (w : World) (b : Nat) (L : List (List UInt8)) : Prop := ∀ j, j < L.length → w.cell? ⟨b, j, none⟩ = some (.string (str (L.getD j [])))
theorem txs_new (w : World) (L : List (List UInt8)) : TxAt (w.alloc (.cells ((L.map fun x => Value.string (str x)).toArray) 9)) w.heap.size L := fun j hj => by
 rw [new_cell]
 simp [List.getD_eq_getElem?_getD, hj]
theorem TxAt.of {w w' : World} {b : Nat} {L : List (List UInt8)} (h : TxAt w b L) (hb : Below w.heap.size w w') : TxAt w' b L := fun j hj => stay hb (h j hj)
def ctB (L : List (List UInt8)) (l : List UInt8) : Bool := L.contains l
theorem in_any (L : List (List UInt8)) (b : Nat) (s : ByteArray) (w : World) (hL : L.length ≤ 100) (h : TxAt w b L) (hbl : b < w.heap.size) :
 Calls Tryz.prog 125 #[.slice (some ⟨b, 0, none⟩) L.length L.length, .string s] w fun e w' => e = .returned (.bool (ctB L s.data.toList)) ∧ w = w' := by
 obtain ⟨n, hn⟩ : ∃ n, L.length = n := ⟨_, rfl⟩
 have HC := Lib.hid h
 have HN := Lib.hid hn
 rw [hn] at hL ⊢
 clear h hn
 go_enter Tryz.func125, Tryz.ntmps125
 go_wp2
 go_loop [5] (fun i => ∃ k : Nat, k ≤ n ∧ i = .int .i64 k ∧ ∀ j, j < k → L.getD j [] ≠ s.data.toList) (fun i => n - (intOf i).toNat)
 case atStart => exact ⟨0, by omega, rfl, fun j hj => by omega⟩
 case round =>
  obtain ⟨k, hk, rfl, hno⟩ := hrel
  have HO := Lib.hid hno
  clear hno
  by_cases hlt : k < n
  ·have hc := HC.out k (by rw [HN.out]; exact hlt)
   have hq := str_eq_iff (L.getD k []) s
   generalize hz : str (L.getD k []) = z at hc hq
   have HZ := Lib.hid hz
   clear hz
   by_cases he : L.getD k [] = s.data.toList
   ·rw [decide_eq_true he] at hq
    have HE := Lib.hid he
    clear he
    go_wp2
    go_ret
    refine ⟨ret_b (Eq.symm ?_), rfl⟩
    exact (mem_getD n HN.out).2 ⟨k, hlt, HE.out⟩
   ·rw [decide_eq_false he] at hq
    go_wp2
    go_round
    case rel => exact ⟨k + 1, by omega, by go_num, fun j hj => by
     by_cases e : j = k
     ·rw [e]; exact he
     ·exact HO.out j (by omega)⟩
    case measure => simp [intOf]; omega
  ·obtain rfl : k = n := by omega
   go_wp2
   go_ret
   refine ⟨ret_b (Eq.symm ?_), rfl⟩
   rw [Bool.eq_false_iff]
   intro h
   obtain ⟨j, hj, e⟩ := (mem_getD k HN.out).1 h
   exact HO.out j hj e
theorem words_any (w : World) : Calls Tryz.prog 126 #[] w fun e w' => e = .returned (.slice (some ⟨w.heap.size, 0, none⟩) 16 16) ∧ w' = w.alloc (.cells ((wordsL.map fun x => Value.string (str x)).toArray) 9) := by
 go_enter Tryz.func126, Tryz.ntmps126
 go_wp2
 go_ret
 exact ⟨rfl, rfl⟩
theorem word_any (s : ByteArray) (w : World) : Calls Tryz.prog 78 #[.string s] w fun e w' => e = .returned (.bool (isWd s.data.toList)) ∧ Below w.heap.size w w' := by
 have hI := in_any wordsL w.heap.size s (w.alloc (.cells ((wordsL.map fun x => Value.string (str x)).toArray) 9)) (by decide) (txs_new w wordsL) (by simp)
 have hl : wordsL.length = 16 := rfl
 rw [hl] at hI
 have hW := words_any w
 generalize hX : (w.alloc (.cells ((wordsL.map fun x => Value.string (str x)).toArray) 9)) = W1 at hI hW
 have hB : Below w.heap.size w W1 := by rw [← hX]; exact (Below.refl _ _).alloc (Nat.le_refl _) _
 clear hX hl
 have hct : ctB wordsL s.data.toList = isWd s.data.toList := rfl
 rw [hct] at hI
 go_enter Tryz.func78, Tryz.ntmps78
 go_wp2_with (first | (go_at_call 126; ((with_reducible refine hW.mono ?_); rintro e w1 ⟨rfl, rfl⟩)) | (go_at_call 125; ((with_reducible refine hI.mono ?_); rintro e w2 ⟨rfl, rfl⟩)))
 go_ret
 exact ⟨rfl, hB⟩
structure NameOk (l : List UInt8) : Prop where
 len : l.length ≤ 16
 first : ∃ c r, l = c :: r ∧ isL c = true
 word : isWd l = false
 all : ∀ c ∈ l, isLD c = true
theorem nmdB_yes {l : List UInt8} (h : NameOk l) : nmdB l = true := by
 obtain ⟨c, r, e, hc⟩ := h.first
 have hn : nameP l = .ok ⟨1, l, 0⟩ l := by unfold nameP; rw [if_neg (by have := h.len; omega), h.word]; rfl
 have hok : TkOk ⟨1, l, 0⟩ l := Or.inl ⟨Or.inl rfl, rfl, rfl, hn, h.all, c, r, e, hc⟩
 have hl : 0 < l.length := by rw [e]; simp
 obtain ⟨n, hnl⟩ : ∃ n, l.length = n + 1 := ⟨l.length - 1, by omega⟩
 have h1 := lex_tok l.length [] (by simp) hok [] (by simp) 0
 rw [List.append_nil, List.nil_append] at h1
 have h2 := lex_end n [] (by simp) (0 + ([] : List UInt8).length + l.length)
 rw [← hnl] at h2
 rw [h2] at h1
 unfold nmdB lexT
 rw [if_neg (by have := h.len; omega), h1]
 show (decide (1 = 1) && decide (l = l)) = true
 simp
theorem nmdB_no {l : List UInt8} (h : nmdB l = true) : NameOk l := by
 unfold nmdB at h
 split at h
 ·rename_i t a T hx
  simp only [Bool.and_eq_true, decide_eq_true_eq] at h
  obtain ⟨hk, ht⟩ := h
  unfold lexT at hx
  split at hx
  ·cases hx
  ·obtain ⟨f', hf, h2 | ⟨b, t', m, r, T', hl, hb, hok, hs, hx', e⟩⟩ := lex_inv hx
   ·have := h2.2; cases this; simp at hk
   ·cases e
    rcases hok with ⟨_, htm, _, hN, hall, c, q, hm, hL⟩ | ⟨h3, _⟩ | ⟨h4, _⟩
    ·have hml : m = l := by rw [← htm, ht]
     subst hml
     unfold nameP at hN
     split at hN
     ·cases hN
     ·rename_i h16
      refine ⟨by omega, ⟨c, q, hm, hL⟩, ?_, hall⟩
      cases hw : isWd m
      ·rfl
      ·rw [hw] at hN; cases hN; simp at hk
    ·omega
    ·omega
 ·cases h
theorem rnmd_any (s : ByteArray) (hs : s.size ≤ 140737488355328) (w : World) : Calls Tryz.prog 50 #[.string s] w fun e w' => e = .returned (.bool (nmdB s.data.toList)) ∧ Below w.heap.size w w' := by
 have hsl : s.data.toList.length = s.size := by simp
 obtain ⟨B, hBd⟩ : ∃ B, B = nmdB s.data.toList := ⟨_, rfl⟩
 rw [← hBd]
 have no : ¬ NameOk s.data.toList → B = false := fun h => by
  rw [hBd]
  cases hq : nmdB s.data.toList
  ·rfl
  ·exact absurd (nmdB_no hq) h
 have yes : NameOk s.data.toList → B = true := fun h => by rw [hBd]; exact nmdB_yes h
 have NO := Lib.hid no
 have YES := Lib.hid yes
 clear no yes hBd
 by_cases h0 : s.size = 0
 ·have hse : s = ⟨#[]⟩ := by
   apply ByteArray.ext
   exact Array.eq_empty_of_size_eq_zero h0
  subst hse
  have hf := Lib.hid (NO.out (fun h => by obtain ⟨c, r, e, _⟩ := h.first; cases e))
  clear NO YES hsl h0
  go_enter Tryz.func50, Tryz.ntmps50
  go_wp2
  go_ret
  exact ⟨by rw [hf.out]; rfl, Below.refl _ _⟩
 ·have hne : s.data.toList ≠ [] := by intro e; rw [e] at hsl; simp at hsl; omega
  obtain ⟨e1, e2⟩ := list_ne hne
  have hpos : 0 < s.size := by omega
  have hdc := drop_cons s 0 hpos
  rw [List.drop_zero] at hdc
  clear hne h0
  by_cases h16 : 16 < s.size
  ·have hf := Lib.hid (NO.out (fun h => by have := h.len; omega))
   clear NO YES hsl hdc
   go_enter Tryz.func50, Tryz.ntmps50
   go_wp2
   go_ret
   exact ⟨by rw [hf.out]; rfl, Below.refl _ _⟩
  ·have h16' : s.size ≤ 16 := by omega
   have hl0 := rletter_any (s[0]'hpos)
   have hW := word_any s
   clear h16
   cases hL : isL (s[0]'hpos)
   ·rw [hL] at hl0
    have hf := Lib.hid (NO.out (fun h => by obtain ⟨c, r, e, hc⟩ := h.first; rw [hdc] at e; cases e; rw [hL] at hc; cases hc))
    clear NO YES hsl hL hdc
    go_enter Tryz.func50, Tryz.ntmps50
    go_wp2_with (go_at_call 77; ((with_reducible refine (hl0 _).mono ?_); rintro e w1 ⟨rfl, rfl⟩))
    go_ret
    exact ⟨by rw [hf.out]; rfl, Below.refl _ _⟩
   ·rw [hL] at hl0
    cases hw : isWd s.data.toList
    ·rw [hw] at hW
     have FST := Lib.hid (show ∃ c r, s.data.toList = c :: r ∧ isL c = true from ⟨_, _, hdc, hL⟩)
     have HW := Lib.hid hw
     have HSL := Lib.hid hsl
     clear hL hw hdc hsl
     go_enter Tryz.func50, Tryz.ntmps50
     go_wp2_with (first | (go_at_call 77; ((with_reducible refine (hl0 _).mono ?_); rintro e w1 ⟨rfl, rfl⟩)) | (go_at_call 78; ((with_reducible refine (hW _).mono ?_); rintro e w2 ⟨rfl, hb2⟩)))
     clear hl0 hW
     go_loop [3] (fun i => ∃ k : Nat, k ≤ s.size ∧ i = .int .i64 k ∧ Hid (∀ j, ∀ h : j < s.size, j < k → isLD (s[j]'h) = true)) (fun i => s.size - (intOf i).toNat)
     case atStart => exact ⟨0, Nat.zero_le _, rfl, Lib.hid (fun j h hj => by omega)⟩
     case round =>
      obtain ⟨k, hk, rfl, hall⟩ := hrel
      by_cases hlt : k < s.size
      ·have hl2 := rletter_any (s[k]'hlt)
       have hd2 := rdigit_any (s[k]'hlt)
       cases hp : isLD (s[k]'hlt)
       ·have hpl : isL (s[k]'hlt) = false ∧ isD (s[k]'hlt) = false := by unfold isLD at hp; simpa using hp
        rw [hpl.1] at hl2
        rw [hpl.2] at hd2
        have hf := Lib.hid (NO.out (fun h => by
         have := h.all (s[k]'hlt) (List.mem_of_getElem? (byte_at s k hlt))
         rw [hp] at this; cases this))
        clear hp hpl
        go_wp2_with (first | (go_at_call 77; ((with_reducible refine (hl2 _).mono ?_); rintro e w1 ⟨rfl, rfl⟩)) | (go_at_call 79; ((with_reducible refine (hd2 _).mono ?_); rintro e w1 ⟨rfl, rfl⟩)))
        go_ret
        exact ⟨by rw [hf.out]; rfl, hb2⟩
       ·have HP2 := Lib.hid hp
        have hallk : ∀ j, ∀ h : j < s.size, j < k + 1 → isLD (s[j]'h) = true := fun j h hj => by
         by_cases e : j = k
         ·subst e; exact HP2.out
         ·exact hall.out j h (by omega)
        have HAK := Lib.hid hallk
        clear hallk
        cases hpl : isL (s[k]'hlt)
        ·have hpd : isD (s[k]'hlt) = true := by unfold isLD at hp; rw [hpl] at hp; simpa using hp
         rw [hpl] at hl2
         rw [hpd] at hd2
         clear hp hpl hpd
         go_wp2_with (first | (go_at_call 77; ((with_reducible refine (hl2 _).mono ?_); rintro e w1 ⟨rfl, rfl⟩)) | (go_at_call 79; ((with_reducible refine (hd2 _).mono ?_); rintro e w1 ⟨rfl, rfl⟩)))
         go_round
         case rel => exact ⟨k + 1, by omega, by go_num, HAK⟩
         case measure => simp [intOf]; omega
        ·rw [hpl] at hl2
         clear hp hpl
         go_wp2_with (first | (go_at_call 77; ((with_reducible refine (hl2 _).mono ?_); rintro e w1 ⟨rfl, rfl⟩)) | (go_at_call 79; ((with_reducible refine (hd2 _).mono ?_); rintro e w1 ⟨rfl, rfl⟩)))
         go_round
         case rel => exact ⟨k + 1, by omega, by go_num, HAK⟩
         case measure => simp [intOf]; omega
      ·obtain rfl : k = s.size := by omega
       have hf := Lib.hid (YES.out ⟨by rw [HSL.out]; exact h16', FST.out, HW.out, fun c hc => by
        obtain ⟨i, hi, rfl⟩ := List.getElem_of_mem hc
        have hi' : i < s.size := by rw [← HSL.out]; exact hi
        exact hall.out i hi' hi'⟩)
       go_wp2
       go_ret
       exact ⟨by rw [hf.out]; rfl, hb2⟩
    ·rw [hw] at hW
     have hf := Lib.hid (NO.out (fun h => by have := h.word; rw [hw] at this; cases this))
     clear NO YES hsl hL hdc hw
     go_enter Tryz.func50, Tryz.ntmps50
     go_wp2_with (first | (go_at_call 77; ((with_reducible refine (hl0 _).mono ?_); rintro e w1 ⟨rfl, rfl⟩)) | (go_at_call 78; ((with_reducible refine (hW _).mono ?_); rintro e w2 ⟨rfl, hb2⟩)))
     go_ret
     exact ⟨by rw [hf.out]; rfl, hb2⟩
end Go.Proofs.YtfbjljcmmbdhkaaGreatDoor
