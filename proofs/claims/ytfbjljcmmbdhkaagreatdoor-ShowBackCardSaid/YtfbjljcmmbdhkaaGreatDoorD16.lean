/- Contract of Large: what it lets through has at most 2000 expressions. -/
import Derived.Test.YtfbjljcmmbdhkaaGreatDoorD12
import Derived.Test.YtfbjljcmmbdhkaaGreatDoorD11
namespace Go.Proofs.YtfbjljcmmbdhkaaGreatDoor
set_option linter.unusedVariables false
set_option linter.unusedSimpArgs false
set_option maxRecDepth 100000
set_option maxHeartbeats 200000000
open Go.ChangeShapes Go.WideShapes Go.ChangeAt Go.RowKit
theorem yQt {P : Program} {w : World} (base : Nat) (t ty e : TypeId) (i : TypeInfo) (size : Nat) (ht : P.underlying t = some (.slice e)) (hi : P.info? e = some i)
 (v : Value) (n : Nat) (xs : List Value) (hown : w.ownsRow base e size v n xs) (ma : Option Addr) (c : Nat) :
 (Builtin.append_ #[t, t] ty #[v, .slice ma 0 c]).run P w = .ok v w := by
 rcases hown.2 with ⟨rfl, rfl⟩ | ⟨g, cap, cur, rfl, _, _, hnc, _⟩ <;> cases ma <;>
  simp [Builtin.append_, run_underlying ht, sizeOf, typeInfo, Builtin.lenOf, Builtin.firstCells, storeCells, loadCells, loadCellsFrom, *]
theorem zZy {P : Program} {w : World} {ops : Array Oper} {rest : List Oper} {o : Oper} {a : Act} {Q : Exit → Act → World → Prop} (hgd : o.guard = none) (s x : Operand) (t : TypeId)
 (ho : o.op = .call { callee := .builtin .append, args := #[s, x], argTypes := #[t, t] })
 (base : Nat) (e : TypeId) (i : TypeInfo) (size : Nat) (ht : P.underlying t = some (.slice e)) (hi : P.info? e = some i)
 (v : Value) (n : Nat) (xs : List Value) (hs : a.eval s = v) (hown : w.ownsRow base e size v n xs) (ma : Option Addr) (c : Nat) (hx : a.eval x = .slice ma 0 c)
 (h : wpList P ops Q rest (a.put o.dst v) w) : wpList P ops Q (o :: rest) a w := by
 refine wpList_plain hgd fun K hK => ?_
 have hrun := yQt (P := P) (w := w) base t o.type e i size ht hi v n xs hown ma c
 unfold Oper.wp
 simp [execOp, ho, resolve, invoke, builtin, hs, hx, hrun, Result.andThen]
 exact hK _ _ h
def xZc (w : World) (e : Xp) (r : Ending) (w' : World) : Prop := (∃ b, r = .returned (.bool b) ∧ (b = false → e.nodes ≤ 2000)) ∧ Below w.heap.size w w'
theorem jQu {w w' : World} {e : Xp} (hB : Below w.heap.size w w') : xZc w e (.returned (.bool true)) w' := ⟨⟨_, rfl, fun h => by cases h⟩, hB⟩
theorem lp_false {w w' : World} {e : Xp} (hn : e.nodes ≤ 2000) (hB : Below w.heap.size w w') : xZc w e (.returned (.bool false)) w' := ⟨⟨_, rfl, fun _ => hn⟩, hB⟩
theorem nodes_row {e0 j : Nat} {L R : List Kx} {l : List Xp} (hR : R.map (·.x) = l) (hj : j < L.length) (h : e0 = j + 1 + (zXv l + zXv ((L.drop (j + 1)).map (·.x)))) :
 e0 = (j + 1) + zXv (((L ++ R).drop (j + 1)).map (·.x)) := by
 rw [List.drop_append_of_le_length (by omega), List.map_append, yKz, hR]
 omega
theorem jXc (e : Xp) (v : Value) (w : World) (hE : IsE (fun b => b < w.heap.size) w v e) :
 Calls Tryz.prog 16 #[v] w (xZc w e) := by
 obtain ⟨i0, hi, hz0, hz1, hz2⟩ := info_parts jZl
 have HE := Lib.hid hE
 cases hE with
 | @mk k n s o l ma cap ho hl hk =>
  obtain ⟨e0, he0⟩ : ∃ e0, e0 = Xp.mk k n s o l := ⟨_, rfl⟩
  rw [← he0] at HE ⊢
  obtain ⟨N, hN⟩ : ∃ N, N = l.length := ⟨_, rfl⟩
  rw [← hN] at HE hl ⊢
  have hK0 : Kx.is (fun b => b < w.heap.size) w ⟨k, n, s, o, ma, N, cap, e0⟩ := HE.out
  have hBw : Below w.heap.size w ((w.alloc (.cells #[.int .u8 (k : Int), .int .u64 (n : Int), .string (str s), .int .u8 (o : Int), .slice ma N cap] 47)).alloc (.cells #[.int .u8 (k : Int), .int .u64 (n : Int), .string (str s), .int .u8 (o : Int), .slice ma N cap] 47)) := aB (aB (Below.refl _ _) _) _
  have hown0 : ((w.alloc (.cells #[.int .u8 (k : Int), .int .u64 (n : Int), .string (str s), .int .u8 (o : Int), .slice ma N cap] 47)).alloc (.cells #[.int .u8 (k : Int), .int .u64 (n : Int), .string (str s), .int .u8 (o : Int), .slice ma N cap] 47)).ownsRow w.heap.size 47 5 (.slice (some ⟨w.heap.size + 1, 0, none⟩) 1 1) 1 (kxs [⟨k, n, s, o, ma, N, cap, e0⟩]) := by
   refine ⟨rfl, .inr ⟨w.heap.size + 1, 1, #[.int .u8 (k : Int), .int .u64 (n : Int), .string (str s), .int .u8 (o : Int), .slice ma N cap], rfl, by omega, ?_, Nat.le_refl _, by unfold maxLen; omega, rfl, rfl⟩⟩
   have := heap_alloc_new (w.alloc (.cells #[.int .u8 (k : Int), .int .u64 (n : Int), .string (str s), .int .u8 (o : Int), .slice ma N cap] 47)) (.cells #[.int .u8 (k : Int), .int .u64 (n : Int), .string (str s), .int .u8 (o : Int), .slice ma N cap] 47)
   rw [World.size_alloc] at this
   exact this
  have hKw := kx_mv hK0 hBw (fun b hb => hb)
  have HKW := Lib.hid hKw
  have hnn : e0.nodes = 0 + zXv ([(⟨k, n, s, o, ma, N, cap, e0⟩ : Kx)].map (·.x)) := by simp [zXv]
  have HNN := Lib.hid hnn
  clear hk he0 hN hK0 hKw hnn
  go_enter Tryz.func16, Tryz.ntmps16
  go_wp2
  go_loopw [3, 4, 5] (fun lv nv iv wr => ∃ (L : List Kx) (j : Nat) (nn : Int), j ≤ L.length ∧ L.length ≤ 2000 ∧ nv = .int .i64 nn ∧ iv = .int .i64 (j : Int) ∧ wr.ownsRow w.heap.size 47 5 lv L.length (kxs L) ∧ Below w.heap.size w wr ∧ Hid (∀ K ∈ L, K.is (fun b => b < w.heap.size) wr) ∧ Hid (e0.nodes = j + zXv ((L.drop j).map (·.x)))) (fun _ _ iv _ => e0.nodes - (intOf iv).toNat)
  case atStart => exact ⟨[⟨k, n, s, o, ma, N, cap, e0⟩], 0, 0, by simp, by simp, rfl, rfl, hown0, hBw, Lib.hid (fun K hK => by simp at hK; subst hK; exact HKW.out), HNN⟩
  case round =>
   obtain ⟨L, j, nn, hjL, hL, rfl, rfl, hown, hB, hKs, hnd⟩ := hrel
   by_cases hlt : j < L.length
   ·have hown' := hown
    obtain ⟨g, cg, rfl, hg1, hg2⟩ := hown.form (by omega)
    have hat := fun r (hr : r < 5) => (hown.cellAt (j * 5 + r) (by omega)).trans (kxs_at L j hlt r hr)
    have q2 : wr.cell? ⟨g, j * 5 + 2, none⟩ = some (.string (str L[j].s)) := hat 2 (by omega)
    have q4 : wr.cell? ⟨g, j * 5 + 4, none⟩ = some (.slice L[j].ma L[j].m L[j].cap) := hat 4 (by omega)
    obtain ⟨hm1, hm2, hkk, _⟩ := kx_of (hKs.out L[j] (List.getElem_mem hlt))
    have hstep : e0.nodes = j + 1 + (zXv L[j].x.l + zXv ((L.drop (j + 1)).map (·.x))) := by
     have h1 := hnd.out
     rw [List.drop_eq_getElem_cons hlt, List.map_cons, zXv, nodes_l L[j].x] at h1
     omega
    have HST := Lib.hid hstep
    have HKK := Lib.hid hkk
    have HM1 := Lib.hid hm1
    have hjn : j < e0.nodes := by omega
    clear hstep hkk hm1 hat
    obtain ⟨NL, hNL⟩ : ∃ NL, NL = L.length := ⟨_, rfl⟩
    rw [← hNL] at hown hlt hL hjL ⊢
    have HNL := Lib.hid hNL
    clear hNL
    have hwl : IntKind.i64.wrap ((NL : Int) + (L[j].m : Int)) = (NL : Int) + (L[j].m : Int) := by rw [IntKind.wrap_i64]; omega
    obtain ⟨sv, hsv⟩ : ∃ sv, str L[j].s = sv := ⟨_, rfl⟩
    rw [hsv] at q2
    clear hsv
    obtain ⟨mj, hmj⟩ : ∃ mj, L[j].m = mj := ⟨_, rfl⟩
    obtain ⟨cj, hcj⟩ : ∃ cj, L[j].cap = cj := ⟨_, rfl⟩
    obtain ⟨aj, haj⟩ : ∃ aj, L[j].ma = aj := ⟨_, rfl⟩
    have HMJ := Lib.hid hmj
    have HAJ := Lib.hid haj
    rw [hmj, hcj, haj] at q4
    rw [hmj] at hwl hm2
    clear hmj hcj haj
    by_cases h2 : 2000 < (NL : Int) + (mj : Int)
    ·go_wp2
     go_ret
     exact jQu hB
    ·by_cases h3 : 3000 < wrap64 (wrap64 (nn + 1) + wrap64 ((sv.size : Int) / 20))
     ·go_wp2
      go_ret
      exact jQu hB
     ·by_cases hm0 : mj = 0
      ·subst hm0
       go_wp2_with (at_builtin; refine zZy rfl _ _ 41 rfl w.heap.size 47 i0 5 Tryz.underlying41 hi _ NL (kxs L) rfl hown aj cj rfl ?_)
       go_wp2
       go_roundw
       case rel => exact ⟨L, j + 1, _, by have := HNL.out; omega, by have := HNL.out; omega, rfl, by go_num, by rw [← HNL.out]; exact hown, hB, hKs, Lib.hid (by
        have h1 := HST.out
        have h2 : L[j].x.l = [] := List.length_eq_zero_iff.1 (by rw [← HM1.out, HMJ.out])
        rw [h2, zXv] at h1
        omega)⟩
       case measure => simp [intOf]; omega
      ·have hkk := HKK.out
       rw [HAJ.out] at hkk
       obtain ⟨g1, o1, rfl⟩ := zXb hkk (by rw [← HM1.out, HMJ.out]; omega)
       obtain ⟨R, hR, hRc, hRi⟩ := kids_row _ _ hkk
       have hRl : R.length = mj := by have := congrArg List.length hR; rw [List.length_map, ← HM1.out, HMJ.out] at this; exact this
       have HR := Lib.hid hR
       have HRL := Lib.hid hRl
       have HRI := Lib.hid hRi
       clear hkk hR hRl hRi
       go_wp2_with (at_builtin; refine wpList_append_lies _ rfl _ _ 41 rfl w.heap.size 47 i0 _ 5 64 Tryz.underlying41 hi hz0 hz1 hz2 rfl (by decide) _ NL (kxs L) rfl hown ⟨g1, o1, none⟩ mj cj (kxs R) rfl ?cL ?cN ?c0 ?c9 ?c1 ?c2 ?c3 _ rfl ?_)
       case cL => rw [jXd, HRL.out]
       case cN => exact fun j u hu => hRc j u hu
       case c0 => exact yXl _
       case c9 => omega
       case c1 => unfold maxLen; omega
       case c2 => omega
       case c3 => exact hB.size
       intro g5 cap5 w5 hown5 hgrow hat hlt5
       go_wp2
       have ho5 := zXc hgrow
       have hgb : ∀ b, b < w.heap.size → ¬ some b = (Value.slice (some ⟨g, 0, none⟩) NL cg).ownBlock := fun b hb e => by simp only [Value.ownBlock, Option.some.injEq] at e; omega
       have hB5 : Below w.heap.size w w5 := hB.grown hgrow hB.size (fun k hk => by simp only [Value.ownBlock, Option.some.injEq] at hk; omega)
       have hlen5 : (L ++ R).length = NL + mj := by rw [List.length_append, ← HNL.out, HRL.out]
       have hst := HST.out
       have hjl : j < L.length := by rw [← HNL.out]; exact hlt
       go_roundw
       case rel => exact ⟨L ++ R, j + 1, _, by rw [hlen5]; omega, by rw [hlen5]; omega, rfl, by go_num, by rw [hlen5, yJy]; exact hown5, hB5, Lib.hid (fun K hK => by
        rcases List.mem_append.1 hK with h1 | h1
        ·exact (hKs.out K h1).only ho5 (fun b hb => hgb b hb)
        ·exact (HRI.out K h1).only ho5 (fun b hb => hgb b hb)), Lib.hid (nodes_row HR.out hjl hst)⟩
       case measure => simp [intOf]; omega
   ·obtain rfl : j = L.length := by omega
    obtain ⟨alv, clv, rfl⟩ := zKb hown
    have hfin : e0.nodes ≤ 2000 := by
     have h1 := hnd.out
     rw [List.drop_length, List.map_nil, zXv] at h1
     omega
    have HF := Lib.hid hfin
    clear hfin
    go_wp2
    go_ret
    exact lp_false HF.out hB
end Go.Proofs.YtfbjljcmmbdhkaaGreatDoor
