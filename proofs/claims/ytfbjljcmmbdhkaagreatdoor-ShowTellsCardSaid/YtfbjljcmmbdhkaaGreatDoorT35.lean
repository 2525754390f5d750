/- The document's Show: a line that is written. -/
import Derived.Test.YtfbjljcmmbdhkaaGreatDoorT14
import Derived.Test.YtfbjljcmmbdhkaaGreatDoorT33
import Derived.Test.YtfbjljcmmbdhkaaGreatDoorT15
import Derived.Test.YtfbjljcmmbdhkaaGreatDoorT17
import Derived.Test.YtfbjljcmmbdhkaaGreatDoorT34
namespace Go.Proofs.YtfbjljcmmbdhkaaGreatDoor
set_option linter.unusedVariables false
set_option linter.unusedSimpArgs false
set_option maxRecDepth 100000
set_option maxHeartbeats 200000000
open Go.ChangeShapes Go.WideShapes Go.ChangeAt Go.RowKit
theorem cat9 (A B : List UInt8) (w : World) (h : A.length + B.length ≤ 1000000000000) : (Op.stringOp .add (str A) (str B)).run Tryz.prog w = .ok (.string (str (A ++ B))) w := by
 have h1 := str_size A
 have h2 := str_size B
 have : ¬ ((9223372036854775807 : Int) < ((str A).size : Int) + ((str B).size : Int)) := by rw [h1, h2]; omega
 simp [Op.stringOp, this, str_app]
theorem Jn_take {l : List (List UInt8)} {i : Nat} (h : i < l.length) : (Jn (l.take (i + 1))).drop 1 = if i = 0 then l[i] else (Jn (l.take i)).drop 1 ++ (32 :: l[i]) := by
 rw [List.take_succ_eq_append_getElem h, Jn_app]
 by_cases h0 : i = 0
 ·subst h0
  rw [if_pos rfl]
  simp [Jn]
 ·rw [if_neg h0]
  have hne : Jn (l.take i) ≠ [] := by
   cases l with
   | nil => simp at h
   | cons a r =>
    obtain ⟨k, rfl⟩ : ∃ k, i = k + 1 := ⟨i - 1, by omega⟩
    simp [Jn]
  cases hj : Jn (l.take i) with
  | nil => exact absurd hj hne
  | cons a r => simp [Jn]
theorem Jn_le : ∀ (l : List (List UInt8)) (i : Nat), (Jn (l.take i)).length ≤ (Jn l).length := fun l i => by
 have h : Jn l = Jn (l.take i) ++ Jn (l.drop i) := by rw [← Jn_app, List.take_append_drop]
 rw [h, List.length_append]
 omega
theorem rset0 {c : Value} (v : Value) {w : World} {k : Nat} (h : rowG #[c] w k) : rowG #[v] (w.setCell ⟨k, 0, none⟩ v) k := by simpa using row_set (i := 0) (by simp) v h
theorem rline_any (S : List UInt8) (d : Nat) (ss : List (List UInt8)) (pb n : Nat) (ma : Option Addr) (cap : Nat) (w : World) (hp : rowG #[.string (str S)] w pb) (hn : ss.length = n) (hS : StrsAt (fun b => b < w.heap.size ∧ b ≠ pb) w ss ma)
 (hl : n ≤ 1000000) (hd : d ≤ 1000000) (hb : S.length + (Jn ss).length ≤ 100000000000) :
 Calls Tryz.prog 30 #[.pointer (some ⟨pb, 0, none⟩), .int .i64 (d : Int), .slice ma n cap] w fun r w' => r = .returned (.tuple #[]) ∧ rowG #[.string (str (S ++ rlnT d ss))] w' pb ∧ Only (fun j => j = pb) w w' := by
 have HN := Lib.hid hn
 clear hn
 go_enter Tryz.func30, Tryz.ntmps30
 go_wp2
 go_loopw [6] (fun iv wr => ∃ (i : Nat) (X : List UInt8), i ≤ d ∧ iv = .int .i64 (i : Int) ∧ rowG #[.string (str X)] wr pb ∧ Only (fun j => j = pb) w wr ∧ Hid (X = S ++ List.replicate (2 * i) 32)) (fun iv _ => d - (intOf iv).toNat)
 case atStart => exact ⟨0, S, Nat.zero_le _, rfl, hp, Only.refl _ _, Lib.hid (by simp)⟩
 case round =>
  obtain ⟨i, X, hi, rfl, hr, hO, HX⟩ := hrel
  have c0 : wr.cell? ⟨pb, 0, none⟩ = some (.string (str X)) := hr.1 0 (by simp)
  have f0 := hr.2.1 0
  have hlt := hr.2.2
  by_cases hid : i < d
  ·have hcat := fun w => cat9 X [32, 32] w (by rw [HX.out, List.length_append, List.length_replicate]; simp only [List.length_cons, List.length_nil]; omega)
   rw [show str [32, 32] = ⟨#[32, 32]⟩ from rfl] at hcat
   have HX2 : Hid (X ++ [32, 32] = S ++ List.replicate (2 * (i + 1)) 32) := Lib.hid (by
    rw [HX.out, List.append_assoc, show 2 * (i + 1) = 2 * i + 2 from by omega, ← List.replicate_append_replicate]
    rfl)
   generalize hY : X ++ [32, 32] = Y at hcat HX2
   clear hY
   go_wp2
   go_roundw
   case rel => exact ⟨i + 1, Y, by omega, by go_num, rset0 _ hr, hO.setCell rfl, HX2⟩
   case measure => simp [intOf]; omega
  ·obtain rfl : d = i := by omega
   go_wp2
   have hS2 : StrsAt (fun b => b < wr.heap.size ∧ b ≠ pb) wr ss ma := fun k hk => by
    obtain ⟨b, o, e, hg, hc⟩ := hS k hk
    exact ⟨b, o, e, ⟨Nat.lt_of_lt_of_le hg.1 hO.size, hg.2⟩, hO.cell (a := ⟨b, o + k, none⟩) (fun h => hg.2 h) hc⟩
   clear c0 f0 hlt
   go_loopw [7] (fun iv wq => ∃ (j : Nat) (Y : List UInt8), j ≤ n ∧ iv = .int .i64 (j : Int) ∧ rowG #[.string (str Y)] wq pb ∧ Only (fun j => j = pb) wr wq ∧ Hid (Y = X ++ (Jn (ss.take j)).drop 1)) (fun iv _ => n - (intOf iv).toNat)
   case atStart => exact ⟨0, X, Nat.zero_le _, rfl, hr, Only.refl _ _, Lib.hid (by simp [Jn])⟩
   case round =>
    obtain ⟨j, Y, hj, rfl, hq, hOq, HY⟩ := hrel
    have c0 : wr.cell? ⟨pb, 0, none⟩ = some (.string (str Y)) := hq.1 0 (by simp)
    have f0 := hq.2.1 0
    have hlt := hq.2.2
    have hYl : Y.length ≤ 200000000000 := by
     have h1 := Jn_le ss j
     rw [HY.out, HX.out]
     simp only [List.length_append, List.length_replicate, List.length_drop]
     omega
    by_cases hjn : j < n
    ·have hjl : j < ss.length := by rw [HN.out]; exact hjn
     obtain ⟨b, o, rfl, hg, hc⟩ := hS2 j hjl
     have hcq := hOq.cell (a := ⟨b, o + j, none⟩) (fun h => hg.2 h) hc
     have hbl : b < wr.heap.size := Nat.lt_of_lt_of_le hg.1 hOq.size
     have hJ := Jn_take hjl
     have hxl : (ss[j]).length ≤ 100000000000 := by
      have h1 := Jn_le ss (j + 1)
      have h2 := congrArg List.length hJ
      rw [List.length_drop] at h2
      split at h2
      ·omega
      ·rw [List.length_append, List.length_cons] at h2; omega
     have HJ := Lib.hid hJ
     clear hJ hc
     generalize hx : ss[j] = x at hcq hxl HJ
     clear hx
     have HL := Lib.hid (And.intro hYl hxl)
     clear hYl hxl
     by_cases h0 : j = 0
     ·have hj0 : ¬ (0 : Int) < (j : Int) := by omega
      have hcat := fun w => cat9 Y x w (by have := HL.out.1; have := HL.out.2; omega)
      have HY2 : Hid (Y ++ x = X ++ (Jn (ss.take (j + 1))).drop 1) := Lib.hid (by rw [HJ.out, if_pos h0, HY.out, h0]; simp [Jn])
      generalize hZ : Y ++ x = Z at hcat HY2
      clear hZ h0
      go_wp2
      have c1 : wr.drew.cell? ⟨pb, 0, none⟩ = some (.string (str Y)) := c0
      have c2 : wr.drew.cell? ⟨b, o + j, none⟩ = some (.string (str x)) := hcq
      have f1 : wr.drew.frozen? ⟨pb, 0, none⟩ = false := f0
      refine wp_region_still_tail 12 (by kernel_rfl) (by kernel_rfl) ?_
      simp only [List.take_succ_cons, List.take_zero, List.drop_succ_cons, List.drop_zero]
      iterate 12 still_step
      refine wpStill_nil ?_
      change wpList _ _ _ _ _ wr.drew
      go_wp2
      go_roundw
      case rel => exact ⟨j + 1, Z, by omega, by go_num, rset0 _ hq, (hOq.setCell rfl).trans od1, HY2⟩
      case measure => simp [intOf]; omega
     ·have hj0 : (0 : Int) < (j : Int) := by omega
      have hcat := fun w => cat9 Y [32] w (by have := HL.out.1; simp only [List.length_cons, List.length_nil]; omega)
      rw [show str [32] = ⟨#[32]⟩ from rfl] at hcat
      have hcat2 := fun w => cat9 (Y ++ [32]) x w (by have := HL.out.1; have := HL.out.2; rw [List.length_append]; simp only [List.length_cons, List.length_nil]; omega)
      have HY2 : Hid (Y ++ [32] ++ x = X ++ (Jn (ss.take (j + 1))).drop 1) := Lib.hid (by rw [HJ.out, if_neg h0, HY.out]; simp)
      generalize hV : Y ++ [32] = V at hcat hcat2 HY2
      clear hV
      generalize hZ : V ++ x = Z at hcat2 HY2
      clear hZ h0
      go_wp2
      have hq2 := rset0 (.string (str V)) hq
      have hc3 := (only_one wr pb 0 (.string (str V))).cell (a := ⟨b, o + j, none⟩) (fun h => hg.2 h) hcq
      have hO3 := only_one wr pb 0 (.string (str V))
      have hb3 : b < (wr.setCell ⟨pb, 0, none⟩ (.string (str V))).heap.size := by simpa using hbl
      generalize wr.setCell ⟨pb, 0, none⟩ (.string (str V)) = Wv at hq2 hc3 hO3 hb3 ⊢
      have hl2 := hq2.2.2
      have c1 : Wv.drew.cell? ⟨pb, 0, none⟩ = some (.string (str V)) := hq2.1 0 (by simp)
      have c2 : Wv.drew.cell? ⟨b, o + j, none⟩ = some (.string (str x)) := hc3
      have f1 : Wv.drew.frozen? ⟨pb, 0, none⟩ = false := hq2.2.1 0
      refine wp_region_still_tail 12 (by kernel_rfl) (by kernel_rfl) ?_
      simp only [List.take_succ_cons, List.take_zero, List.drop_succ_cons, List.drop_zero]
      iterate 12 still_step
      refine wpStill_nil ?_
      change wpList _ _ _ _ _ Wv.drew
      go_wp2
      go_roundw
      case rel => exact ⟨j + 1, Z, by omega, by go_num, rset0 _ hq2, ((hOq.trans hO3).setCell rfl).trans od1, HY2⟩
      case measure => simp [intOf]; omega
    ·obtain rfl : n = j := by omega
     have hcat := fun w => cat9 Y [10] w (by simp only [List.length_cons, List.length_nil]; omega)
     rw [show str [10] = ⟨#[10]⟩ from rfl] at hcat
     have HE : Hid (Y ++ [10] = S ++ rlnT d ss) := Lib.hid (by
      rw [HY.out, HX.out, List.take_of_length_le (by rw [HN.out]; exact Nat.le_refl _)]
      unfold rlnT
      rw [join_Jn]
      simp)
     generalize hZ : Y ++ [10] = Z at hcat HE
     clear hZ hYl
     go_wp2
     go_end0
     rw [← HE.out]
     exact ⟨rfl, rset0 _ hq, hO.trans (hOq.setCell rfl)⟩
def pzs (T : List (Tk × Int)) : List (List UInt8) := T.map fun x => x.1.piece
def RjP (w : World) (T : List (Tk × Int)) (r : Ending) (w' : World) : Prop := r = .returned (.string (str (Lib.join (pzs T) [32]))) ∧ Below w.heap.size w w'
theorem pz_len (T : List (Tk × Int)) : (pzs T).length = T.length := List.length_map _
theorem rjoin_any (v : Value) (T : List (Tk × Int)) (w : World) (h : RowZ w v T) (hl : T.length ≤ 1000000) (hk : ∀ x ∈ T, 1 ≤ x.1.k ∧ x.1.k ≤ 4 ∧ x.1.n < 18446744073709551616) (hb : (Jn (pzs T)).length ≤ 100000000000) :
 Calls Tryz.prog 54 #[v] w (RjP w T) := by
 obtain ⟨m1, c1, rfl, hc1⟩ := h.row
 have HC := Lib.hid hc1
 have HK := Lib.hid hk
 have HB := Lib.hid hb
 obtain ⟨N, hN⟩ : ∃ N, T.length = N := ⟨_, rfl⟩
 rw [hN] at hl ⊢
 have HN := Lib.hid hN
 clear hc1 h hN hk hb
 go_enter Tryz.func54, Tryz.ntmps54
 go_wp2
 go_loopw [3, 4, 5] (fun sv nv iv wr => ∃ (M : Nat) (X : List UInt8), M ≤ N ∧ nv = .int .i64 (M : Int) ∧ iv = .int .i64 (M : Int) ∧ sv = .string (str X) ∧ Hid (X = (Jn ((pzs T).take M)).drop 1) ∧ Below w.heap.size w wr) (fun _ _ iv _ => N - (intOf iv).toNat)
 case atStart => exact ⟨0, [], Nat.zero_le _, rfl, rfl, rfl, Lib.hid (by simp [Jn]), Below.refl _ _⟩
 case round =>
  obtain ⟨M, X, hM, rfl, rfl, rfl, HX, hBw⟩ := hrel
  by_cases hlt : M < N
  ·have hlt' : M < T.length := by rw [HN.out]; exact hlt
   obtain ⟨b1, o1, rfl, hl1, p0, p1, p2, p3⟩ := HC.out M hlt'
   have q0 := stay hBw p0
   have q1 := stay hBw p1
   have q2 := stay hBw p2
   have hl2 : b1 < wr.heap.size := Nat.lt_of_lt_of_le hl1 hBw.size
   have hkk := HK.out _ (List.getElem_mem hlt')
   have hlz : M < (pzs T).length := by rw [pz_len]; exact hlt'
   have hJ := Jn_take hlz
   have hXl : X.length ≤ 100000000000 := by
    have h1 := Jn_le (pzs T) M
    have h2 := HB.out
    rw [HX.out, List.length_drop]; omega
   have hpl : ((pzs T)[M]).length ≤ 100000000000 := by
    have h1 := Jn_le (pzs T) (M + 1)
    have h2 := congrArg List.length hJ
    have h3 := HB.out
    rw [List.length_drop] at h2
    split at h2
    ·omega
    ·rw [List.length_append, List.length_cons] at h2; omega
   have hpz : (pzs T)[M] = (T[M]).1.piece := by simp [pzs]
   rw [hpz] at hJ hpl
   obtain ⟨⟨⟨k, s, n⟩, z⟩, hx⟩ : ∃ x, T[M] = x := ⟨_, rfl⟩
   rw [hx] at q0 q1 q2 hkk hJ hpl
   simp only at q0 q1 q2 hkk hJ hpl
   clear p0 p1 p2 p3 hx hpz
   obtain ⟨hk1, hk4, hn64⟩ := hkk
   have g1 : ¬ (k : Int) < 1 := by omega
   have g4 : ¬ (4 : Int) < (k : Int) := by omega
   have HJ := Lib.hid hJ
   clear hJ
   have hdig := rdigits_any n hn64
   have hcs : ∀ (P : List UInt8), P.length ≤ 100000000000 → Hid ((Jn ((pzs T).take (M + 1))).drop 1 = if M = 0 then P else (Jn ((pzs T).take M)).drop 1 ++ (32 :: P)) → (M = 0 → (∀ w, (Op.stringOp .add (str X) (str P)).run Tryz.prog w = .ok (.string (str (X ++ P))) w) ∧ Hid (X ++ P = (Jn ((pzs T).take (M + 1))).drop 1)) ∧
    (¬ M = 0 → (∀ w, (Op.stringOp .add (str X) ⟨#[32]⟩).run Tryz.prog w = .ok (.string (str (X ++ [32]))) w) ∧ (∀ w, (Op.stringOp .add (str (X ++ [32])) (str P)).run Tryz.prog w = .ok (.string (str (X ++ [32] ++ P))) w) ∧ Hid (X ++ [32] ++ P = (Jn ((pzs T).take (M + 1))).drop 1)) := fun P hP HJ => by
    refine ⟨fun h0 => ⟨fun w => cat9 X P w (by omega), Lib.hid (by rw [HJ.out, if_pos h0, HX.out, h0]; simp [Jn])⟩, fun h0 => ⟨fun w => ?_, fun w => cat9 _ P w (by rw [List.length_append]; simp only [List.length_cons, List.length_nil]; omega), Lib.hid (by rw [HJ.out, if_neg h0, HX.out]; simp)⟩⟩
    have := cat9 X [32] w (by simp only [List.length_cons, List.length_nil]; omega)
    rwa [show str [32] = ⟨#[32]⟩ from rfl] at this
   by_cases h3 : k = 3
   ·subst h3
    have hp3 : (⟨3, s, n⟩ : Tk).piece = Lib.decDigits n := by simp [Tk.piece]
    rw [hp3] at HJ hpl
    obtain ⟨hz, hnz⟩ := hcs _ hpl HJ
    clear hcs hpl HJ hp3 HX
    generalize Lib.decDigits n = P at *
    by_cases h0 : M = 0
    ·obtain ⟨hc, HZ⟩ := hz h0
     have hj0 : ¬ (0 : Int) < (M : Int) := by omega
     clear hz hnz h0
     generalize X ++ P = Z at hc HZ
     go_wp2_with (go_at_call 82; ((with_reducible refine (hdig _).mono ?_); (rintro e w1 ⟨rfl, hb1⟩)))
     go_roundw
     case rel => exact ⟨M + 1, Z, by omega, by go_num, by go_num, rfl, HZ, tr hBw hb1⟩
     case measure => simp [intOf]; omega
    ·obtain ⟨hc, hc2, HZ⟩ := hnz h0
     have hj0 : (0 : Int) < (M : Int) := by omega
     clear hz hnz h0
     generalize X ++ [32] ++ P = Z at hc2 HZ
     generalize X ++ [32] = Y at *
     go_wp2_with (go_at_call 82; ((with_reducible refine (hdig _).mono ?_); (rintro e w1 ⟨rfl, hb1⟩)))
     go_roundw
     case rel => exact ⟨M + 1, Z, by omega, by go_num, by go_num, rfl, HZ, tr hBw hb1⟩
     case measure => simp [intOf]; omega
   ·have hp3 : (⟨k, s, n⟩ : Tk).piece = s := by simp [Tk.piece, h3]
    rw [hp3] at HJ hpl
    have g3 : ((k : Int) == 3) = false := by rw [beq_eq_false_iff_ne]; omega
    obtain ⟨hz, hnz⟩ := hcs _ hpl HJ
    clear hcs hpl HJ hp3 HX
    by_cases h0 : M = 0
    ·obtain ⟨hc, HZ⟩ := hz h0
     have hj0 : ¬ (0 : Int) < (M : Int) := by omega
     clear hz hnz h0
     generalize X ++ s = Z at hc HZ
     go_wp2
     go_roundw
     case rel => exact ⟨M + 1, Z, by omega, by go_num, by go_num, rfl, HZ, hBw⟩
     case measure => simp [intOf]; omega
    ·obtain ⟨hc, hc2, HZ⟩ := hnz h0
     have hj0 : (0 : Int) < (M : Int) := by omega
     clear hz hnz h0
     generalize X ++ [32] ++ s = Z at hc2 HZ
     generalize X ++ [32] = Y at *
     go_wp2
     go_roundw
     case rel => exact ⟨M + 1, Z, by omega, by go_num, by go_num, rfl, HZ, hBw⟩
     case measure => simp [intOf]; omega
  ·obtain rfl : M = N := by omega
   go_wp2
   go_ret
   refine ⟨?_, hBw⟩
   have hX : X = Lib.join (pzs T) [32] := by rw [join_Jn, HX.out, List.take_of_length_le (by rw [pz_len, HN.out]; exact Nat.le_refl _)]
   rw [← hX]
   rfl
theorem tok_piece {t : Tk} {m : List UInt8} (h : TkOk t m) : 1 ≤ t.k ∧ t.k ≤ 4 ∧ t.n < 18446744073709551616 ∧ t.piece = m := by
 refine ⟨h.k.1, h.k.2, ?_, h.piece⟩
 rcases h with ⟨-, -, h, -⟩ | ⟨-, -, -, -, h, -⟩ | ⟨-, -, h, -⟩ <;> omega
theorem pzs_toks : ∀ (r : List Tk), Toks r → pzs (zs r) = pcs r ∧ ∀ x ∈ zs r, 1 ≤ x.1.k ∧ x.1.k ≤ 4 ∧ x.1.n < 18446744073709551616
 | [], _ => ⟨rfl, fun x h => by simp [zs] at h⟩
 | t :: r, h => by
   obtain ⟨m, hm⟩ := h t (by simp)
   obtain ⟨h1, h2⟩ := pzs_toks r (fun x hx => h x (by simp [hx]))
   obtain ⟨a1, a2, a3, a4⟩ := tok_piece hm
   refine ⟨?_, fun x hx => ?_⟩
   ·rw [pcs_tok hm, ← h1, ← a4]; rfl
   ·rcases List.mem_cons.1 (show x ∈ (t, (0 : Int)) :: zs r from hx) with rfl | hx
    ·exact ⟨a1, a2, a3⟩
    ·exact h2 x hx
theorem rext_any (x : Xp) (v : Value) (w : World) (hm : mayB 40 x = true) (hE : IsB w v x) (hn : x.nodes ≤ 100000) (hnb : x.nb) (hl : (xpT x).length ≤ 1000000) (hb : (Jn (pcs (xpT x))).length ≤ 100000000000) :
 Calls Tryz.prog 33 #[v] w fun r w' => r = .returned (.string (str (exR x))) ∧ Below w.heap.size w w' := by
 obtain ⟨hp1, hp2⟩ := pzs_toks _ (tell_toks 40 x hm hnb)
 have hC := fun o => rtell_any 40 x v (w.alloc o) hm (hE.of (aB (Below.refl _ _) o)) hn
 have hJ : ∀ (v : Value) (w : World), RowZ w v (zs (xpT x)) → Calls Tryz.prog 54 #[v] w fun r w' => r = .returned (.string (str (exR x))) ∧ Below w.heap.size w w' := fun v w h =>
  (rjoin_any v _ w h (by unfold zs; rw [List.length_map]; exact hl) hp2 (by rw [show pzs (zs (xpT x)) = pcs (xpT x) from hp1]; exact hb)).mono fun e w' h => by
    unfold RjP at h
    rw [show pzs (zs (xpT x)) = pcs (xpT x) from hp1] at h
    exact h
 have hw : ∃ k n s o ma cap nl, v = .agg #[.int .u8 k, .int .u64 n, .string s, .int .u8 o, .slice ma nl cap] := by cases hE; exact ⟨_, _, _, _, _, _, _, rfl⟩
 obtain ⟨k, n, s, o, ma, cap, nl, rfl⟩ := hw
 generalize exR x = R at *
 go_enter Tryz.func33, Tryz.ntmps33
 go_wp2_with (first
  | (go_at_call 55; ((with_reducible refine (hC _).mono ?_); (rintro e w1 ⟨⟨g, c, rfl, ho⟩, hb1⟩); (have hrz : RowZ w1 _ (zs (xpT x)) := own_rowZ (T := zs (xpT x)) (by unfold zs xpT; rw [List.length_map]; exact ho))))
  | (go_at_call 54; ((with_reducible refine (hJ _ _ hrz).mono ?_); (rintro e w2 ⟨rfl, hb2⟩))))
 go_ret
 refine ⟨rfl, ?_⟩
 exact ((aB (Below.refl _ _) _).trans (hb1.mono (by simp))).trans (hb2.mono (Nat.le_trans (by simp) hb1.size))
structure Sl (B : Nat) (w w' : World) (l l' : Value) (T' : List (List UInt8)) : Prop where
 own : w'.ownsRow B 9 1 l' T'.length (strC T')
 only : Only (fun j => l.ownBlock = some j) w w'
 blk : ∀ j, l'.ownBlock = some j → l.ownBlock = some j ∨ w.heap.size ≤ j
theorem Sl.trans {B : Nat} {a b c : World} {l l1 l2 : Value} {T1 T2 : List (List UInt8)} (h : Sl B a b l l1 T1) (k : Sl B b c l1 l2 T2) : Sl B a c l l2 T2 :=
 ⟨k.own, h.only.old k.only h.blk, fun j hj => by
  rcases k.blk j hj with h1 | h1
  ·exact h.blk j h1
  ·exact .inr (Nat.le_trans h.only.size h1)⟩
theorem Sl.pre {B : Nat} {a b c : World} {l l2 : Value} {T2 : List (List UInt8)} (h : Below a.heap.size a b) (k : Sl B b c l l2 T2) : Sl B a c l l2 T2 :=
 ⟨k.own, (only_below h).trans k.only, fun j hj => by
  rcases k.blk j hj with h1 | h1
  ·exact .inl h1
  ·exact .inr (Nat.le_trans h.size h1)⟩
theorem Sl.post {B : Nat} {a b c : World} {l l2 : Value} {T2 : List (List UInt8)} (k : Sl B a b l l2 T2) (h : Below b.heap.size b c) : Sl B a c l l2 T2 :=
 ⟨own_of k.own h, k.only.trans (only_below h), k.blk⟩
theorem Sl.refl {B : Nat} {w : World} {l : Value} {T : List (List UInt8)} (h : w.ownsRow B 9 1 l T.length (strC T)) : Sl B w w l l T := ⟨h, Only.refl _ _, fun j hj => .inl hj⟩
theorem sl_append {B n m g cap H : Nat} {w w5 : World} {l : Value} {T N : List (List UInt8)} (hown : w5.ownsRow B 9 1 (.slice (some ⟨g, 0, none⟩) (n + m) cap) (n + m) (strC T ++ strC N)) (hn : n = T.length) (hm : m = N.length)
 (hg : w.grownBy w5 l.ownBlock) (hat : l.ownBlock = some g ∨ g = H) (hH : w.heap.size = H) : Sl B w w5 l (.slice (some ⟨g, 0, none⟩) (n + m) cap) (T ++ N) := by
 subst hn hm hH
 refine ⟨by rw [List.length_append, strC_app]; exact hown, (only_grown hg).mono fun j hj => hj.symm, fun j hj => ?_⟩
 simp only [Value.ownBlock, Option.some.injEq] at hj
 subst hj
 rcases hat with h | h
 ·exact .inl h
 ·exact .inr (Nat.le_of_eq h.symm)
theorem rsecret9 (b : Bool) (B : Nat) (l : Value) (T : List (List UInt8)) (w : World) (ho : w.ownsRow B 9 1 l T.length (strC T)) (hB : B ≤ w.heap.size) (hl : T.length ≤ 1000000) :
 Calls Tryz.prog 32 #[l, .bool b] w fun r w' => ∃ l', r = .returned l' ∧ Sl B w w' l l' (T ++ secR b) := by
 obtain ⟨i0, hi, hz0, hz1, hz2⟩ := info_parts infoSl
 cases b with
 | false =>
  rw [show T ++ secR false = T from by simp [secR]]
  go_enter Tryz.func32, Tryz.ntmps32
  go_wp2
  go_ret
  exact ⟨_, rfl, Sl.refl ho⟩
 | true =>
  rw [show T ++ secR true = T ++ [wSecret] from by simp [secR]]
  obtain ⟨M, hM⟩ : ∃ M, M = T.length := ⟨_, rfl⟩
  rw [← hM] at ho hl
  have HM := Lib.hid hM
  clear hM
  go_enter Tryz.func32, Tryz.ntmps32
  go_wp2_with (at_builtin; refine wpList_append_lies _ rfl _ _ 50 rfl B 9 i0 _ 1 16 Tryz.underlying50 hi hz0 hz1 hz2 rfl (by decide) l M (strC T) rfl (ho.alloc _) ⟨w.heap.size, 0, none⟩ 1 1 (strC [wSecret]) rfl rfl ?cN ?c0 (by decide) ?c1 ?c2 ?c3 _ rfl ?_)
  case cN => exact news_ok (strC [wSecret]) 9 w
  case c0 => exact strC_one _
  case c1 => unfold maxLen; omega
  case c2 => omega
  case c3 => simp; omega
  intro g cap' w5 hown hgrow hat hlt
  go_wp2
  go_ret
  exact ⟨_, rfl, (sl_append hown HM.out rfl hgrow hat (by simp)).pre (aB (Below.refl _ _) _)⟩
theorem wpSl {ops : Array Oper} {rest : List Oper} {o : Oper} {a : Act} {w : World} {Q : Exit → Act → World → Prop} (hgd : o.guard = none) (s x : Operand)
 (ho : o.op = .call { callee := .builtin .append, args := #[s, x], argTypes := #[50, 50] }) (B : Nat) (v : Value) (T N : List (List UInt8)) (M m c g0 : Nat)
 (hs : a.eval s = v) (hx : a.eval x = .slice (some ⟨g0, 0, none⟩) m c) (hown : w.ownsRow B 9 1 v M (strC T)) (hM : M = T.length) (hm : m = N.length)
 (hnews : ∀ (j : Nat) (u : Value), (strC N)[j]? = some u → w.cell? ((⟨g0, 0, none⟩ : Addr).add j) = some u) (hm0 : 0 < m) (hl : M + m ≤ 1000000) (hB : B ≤ w.heap.size)
 (h : ∀ g cap w', Sl B w w' v (.slice (some ⟨g, 0, none⟩) (M + m) cap) (T ++ N) → w'.ownsRow B 9 1 (.slice (some ⟨g, 0, none⟩) (M + m) cap) (M + m) (strC (T ++ N)) → g < w'.heap.size → wpList Tryz.prog ops Q rest (a.put o.dst (.slice (some ⟨g, 0, none⟩) (M + m) cap)) w') :
 wpList Tryz.prog ops Q (o :: rest) a w := by
 obtain ⟨i0, hi, hz0, hz1, hz2⟩ := info_parts infoSl
 refine wpList_append_lies w hgd s x 50 ho B 9 i0 _ 1 16 Tryz.underlying50 hi hz0 hz1 hz2 rfl (by decide) v M (strC T) hs hown ⟨g0, 0, none⟩ m c (strC N) hx (by simp [strC, hm]) hnews (strC_one _) hm0 (by unfold maxLen; omega) (by omega) hB _ rfl fun g cap w' h1 h2 h3 h4 => h g cap w' (sl_append h1 hM hm h2 h3 rfl) (by rw [strC_app]; exact h1) h4
theorem comR_take : ∀ (l : List (List UInt8)) (j : Nat) (h : j < l.length), comR (l.take (j + 1)) = comR (l.take j) ++ ((if j = 0 then [] else [[44]]) ++ [l[j]])
 | x :: r, 0, _ => by simp [comR]
 | x :: r, j + 1, h => by
   have h' : j < r.length := by simpa using h
   rw [List.take_succ_cons, List.take_succ_cons, comR, comR, List.take_succ_eq_append_getElem h', List.flatMap_append]
   simp
theorem comR_len : ∀ (l : List (List UInt8)), (comR l).length ≤ 2 * l.length
 | [] => by simp [comR]
 | x :: r => by
   have : ∀ (r : List (List UInt8)), (r.flatMap fun y => [[44], y]).length = 2 * r.length := fun r => by
    induction r with
    | nil => rfl
    | cons a r ih => rw [List.flatMap_cons, List.length_append, ih]; simp; omega
   rw [comR, List.length_cons, List.length_cons, this]
   omega
theorem rcommas9 (ls : List (List UInt8)) (ma : Option Addr) (n cap : Nat) (B : Nat) (l : Value) (T : List (List UInt8)) (w : World) (hn : ls.length = n) (hP : StrsAt (fun b => b < w.heap.size ∧ ¬ l.ownBlock = some b) w ls ma) (hB : B ≤ w.heap.size) (hnl : n ≤ 400000) (ho : w.ownsRow B 9 1 l T.length (strC T)) (hl : T.length ≤ 100000) :
 Calls Tryz.prog 128 #[l, .slice ma n cap] w fun r w' => ∃ l', r = .returned l' ∧ Sl B w w' l l' (T ++ comR ls) := by
 obtain ⟨i0, hi, hz0, hz1, hz2⟩ := info_parts infoSl
 have HP := Lib.hid hP
 have HN := Lib.hid hn
 clear hP hn
 go_enter Tryz.func128, Tryz.ntmps128
 go_wp2
 go_loopw [0, 5] (fun l1 i wr => ∃ (j M : Nat) (L : List (List UInt8)) (lv : Value), j ≤ n ∧ i = .int .i64 j ∧ lv = l1 ∧ Hid (L = T ++ comR (ls.take j)) ∧ Hid (M = L.length) ∧ M ≤ 1000000 ∧ Sl B w wr l lv L) (fun _ i _ => n - (intOf i).toNat)
 case atStart => exact ⟨0, T.length, T, _, by omega, rfl, rfl, Lib.hid (by simp [comR]), Lib.hid rfl, by omega, Sl.refl ho⟩
 case round =>
  obtain ⟨j, M, L, l1, hj, rfl, rfl, HL, HM, hM1, hT⟩ := hrel
  by_cases hlt : j < n
  ·have hlt' : j < ls.length := by rw [HN.out]; exact hlt
   have hct := comR_take ls j hlt'
   have hML : M + 2 ≤ 1000000 := by
    have h1 := comR_len (ls.take j)
    rw [HM.out, HL.out, List.length_append]
    rw [List.length_take] at h1
    omega
   obtain ⟨b, o, hma, ⟨hbB, hne⟩, k0⟩ := HP.out j hlt'
   subst hma
   have g0 := hT.only.cell (a := ⟨b, o + j, none⟩) hne k0
   have hbl : b < wr.heap.size := World.block_lt_of_cell? wr _ g0
   have hBr : B ≤ wr.heap.size := Nat.le_trans hB hT.only.size
   have hne1 : ¬ l1.ownBlock = some b := hT.blk b |> fun h e => (h e).elim hne (fun h => by omega)
   clear k0
   obtain ⟨x, hx⟩ : ∃ x, x = ls[j] := ⟨_, rfl⟩
   rw [← hx] at hct g0
   have HCT := Lib.hid hct
   clear hct hx
   have ho1 := hT.own
   rw [← HM.out] at ho1
   by_cases h0 : j = 0
   ·have H0 := Lib.hid h0
    have h0p : ¬ (0 : Int) < (j : Int) := by omega
    clear h0
    go_wp2_with (at_builtin; refine wpList_append_lies _ rfl _ _ 50 rfl B 9 i0 _ 1 16 Tryz.underlying50 hi hz0 hz1 hz2 rfl (by decide) l1 M (strC L) rfl (ho1.alloc _) ⟨wr.heap.size, 0, none⟩ 1 1 (strC [x]) rfl rfl ?cN ?c0 (by decide) ?c1 ?c2 ?c3 _ rfl ?_)
    case cN => first | exact news_ok (strC [x]) 9 wr | exact fun j u h => h
    case c0 => exact strC_one _
    case c1 => unfold maxLen; omega
    case c2 => omega
    case c3 => first | omega | (simp; omega)
    intro g cap' w5 hown hgrow hat hlt5
    go_wp2
    have hT6 := hT.trans ((sl_append hown HM.out rfl hgrow hat (by simp)).pre (aB (Below.refl _ _) _))
    go_roundw
    case rel => exact ⟨j + 1, M + 1, L ++ [x], _, by omega, by go_num, rfl, Lib.hid (by rw [HCT.out, if_pos H0.out, HL.out]; simp), Lib.hid (by rw [HM.out]; simp), by omega, hT6⟩
    case measure => simp [intOf]; omega
   ·have h0p : (0 : Int) < (j : Int) := by omega
    have H0 := Lib.hid h0
    clear h0
    go_wp2_with (at_builtin; refine wpList_append_lies _ rfl _ _ 50 rfl B 9 i0 _ 1 16 Tryz.underlying50 hi hz0 hz1 hz2 rfl (by decide) l1 M (strC L) rfl (ho1.alloc _) ⟨wr.heap.size, 0, none⟩ 1 1 (strC [[44]]) rfl rfl ?cN ?c0 (by decide) ?c1 ?c2 ?c3 _ rfl ?_)
    case cN => exact news_ok (strC [[44]]) 9 wr
    case c0 => exact strC_one _
    case c1 => unfold maxLen; omega
    case c2 => omega
    case c3 => first | omega | (simp; omega)
    intro g cap' w5 hown hgrow hat hlt5
    have hT5 := (sl_append hown HM.out rfl hgrow hat (by simp)).pre (aB (Below.refl _ _) _)
    have g5 := hT5.only.cell (a := ⟨b, o + j, none⟩) hne1 g0
    have hb5 : b < w5.heap.size := World.block_lt_of_cell? w5 _ g5
    have hB5 : B ≤ w5.heap.size := Nat.le_trans hBr hT5.only.size
    have ho5 := hown.alloc (.cells #[.string (str x)] 9)
    go_wp2_with (at_builtin; refine wpList_append_lies _ rfl _ _ 50 rfl B 9 i0 _ 1 16 Tryz.underlying50 hi hz0 hz1 hz2 rfl (by decide) (.slice (some ⟨g, 0, none⟩) (M + 1) cap') (M + 1) (strC L ++ strC [[44]]) rfl ho5 ⟨w5.heap.size, 0, none⟩ 1 1 (strC [x]) rfl rfl ?cN ?c0 (by decide) ?c1 ?c2 ?c3 _ rfl ?_)
    case cN => exact news_ok (strC [x]) 9 w5
    case c0 => exact strC_one _
    case c1 => unfold maxLen; omega
    case c2 => omega
    case c3 => first | omega | (simp; omega)
    intro g6 cap6 w6 hown6 hgrow6 hat6 hlt6
    rw [← List.append_assoc, ← strC_app] at hown6
    have hT6 := (sl_append (T := L ++ [[44]]) (n := M + 1) hown6 (by rw [HM.out]; simp) rfl hgrow6 hat6 (by simp)).pre (aB (Below.refl w5.heap.size w5) _)
    go_wp2
    have hT7 := hT.trans (hT5.trans hT6)
    go_roundw
    case rel => exact ⟨j + 1, M + 1 + 1, L ++ [[44]] ++ [x], _, by omega, by go_num, rfl, Lib.hid (by rw [HCT.out, if_neg H0.out, HL.out]; simp), Lib.hid (by rw [HM.out]; simp), by omega, hT7⟩
    case measure => simp [intOf]; omega
  ·obtain rfl : j = n := by omega
   go_wp2
   go_ret
   rw [HL.out, List.take_of_length_le (by rw [HN.out]; exact Nat.le_refl _)] at hT
   exact ⟨_, rfl, hT⟩
end Go.Proofs.YtfbjljcmmbdhkaaGreatDoor
