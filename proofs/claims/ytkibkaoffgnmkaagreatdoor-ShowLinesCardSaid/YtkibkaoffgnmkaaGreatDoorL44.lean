/- The contracts of strings.Builder's writers, and of strings.Repeat, at this program. -/
import Derived.Test.YtkibkaoffgnmkaaGreatDoorL01
import Derived.Shelf.Strings.BuilderK
import Derived.Shelf.Strings.Repeat
import Derived.Test.YtkibkaoffgnmkaaGreatDoorL07
import Derived.Test.YtkibkaoffgnmkaaGreatDoorL42
namespace Go.Proofs.YtkibkaoffgnmkaaGreatDoor
set_option linter.unusedVariables false
set_option linter.unusedSimpArgs false
set_option maxRecDepth 100000
set_option maxHeartbeats 200000000
section
open Go.Shelf Go.RowKit
def renB : Go.Shelf.Ren := ⟨fun | 167 => 23 | n => Llays105_ren.f n, Llays105_ren.t, Llays105_ren.g⟩
theorem LWs : Go.Proofs.Lays.n166 Tryz.prog Llays105_ren := { Llays105 with }
theorem LWb : Go.Proofs.Lays.n167 Tryz.prog renB := {
 mixed := Llays105.mixed
 f167 := Tryz.func23.trans (congrArg some (by kernel_rfl))
 f240 := Tryz.func40.trans (congrArg some (by kernel_rfl))
 f276 := Tryz.func68.trans (congrArg some (by kernel_rfl))
 t0 := Llays105.t0
 a0 := Llays105.a0
 z0 := Llays105.z0
 v0 := Llays105.v0
 t4 := Llays105.t4
 a4 := Llays105.a4
 z4 := Llays105.z4
 v4 := Llays105.v4
 t5 := Llays105.t5
 a5 := Llays105.a5
 z5 := Llays105.z5
 v5 := Llays105.v5
 t9 := Llays105.t9
 a9 := Llays105.a9
 z9 := Llays105.z9
 v9 := Llays105.v9
 t20 := Llays105.t20
 a20 := Llays105.a20
 z20 := Llays105.z20
 v20 := Llays105.v20
 t37 := Llays105.t37
 a37 := Llays105.a37
 z37 := Llays105.z37
 v37 := Llays105.v37
 t70 := Llays105.t70
 a70 := Llays105.a70
 z70 := Llays105.z70
 v70 := Llays105.v70
 t72 := Llays105.t72
 a72 := Llays105.a72
 z72 := Llays105.z72
 v72 := Llays105.v72
 t75 := Llays105.t75
 a75 := Llays105.a75
 z75 := Llays105.z75
 v75 := Llays105.v75
 t164 := Llays105.t164
 a164 := Llays105.a164
 z164 := Llays105.z164
 v164 := Llays105.v164 }
theorem LXb : Go.Proofs.Builder.Extra Tryz.prog renB := {
 sizeBuilder := by kernel_rfl
 liesBuilder := by kernel_rfl
 t5 := LBuilder_Extra_105.t5
 a5 := LBuilder_Extra_105.a5
 z5 := LBuilder_Extra_105.z5
 v5 := LBuilder_Extra_105.v5
 infoByte := LBuilder_Extra_105.infoByte
 cellsByte := LBuilder_Extra_105.cellsByte
 sizeByte := LBuilder_Extra_105.sizeByte
 neB5 := by decide }
theorem bd_ws (B b : Nat) (bs : List Value) (s : ByteArray) (w : World) (h : Lib.IsBuilderF 58 5 B b bs w) (hlen : bs.length + s.size ≤ 140737488355328) (hBw : B ≤ w.heap.size) :
  Calls Tryz.prog 20 #[.pointer (some ⟨b, 0, none⟩), .string s] w fun e w' => e = .returned (.tuple #[.int .i64 s.size, .nilIface]) ∧ (Lib.BuilderAtF 58 5 B b (.pointer (some ⟨b, 0, none⟩)) (bs ++ Lib.strCells s) w' ∧ Below B w w' ∧ Lib.OthersKept 5 (some b) w w') :=
 Any.Builder_WriteString_k LWs LBuilder_Extra_105 B b bs s w h hlen hBw
theorem bd_wb (B b : Nat) (bs : List Value) (c : Int) (w : World) (h : Lib.IsBuilderF 58 5 B b bs w) (hlen : bs.length + 1 ≤ 140737488355328) (hBw : B ≤ w.heap.size) :
  Calls Tryz.prog 23 #[.pointer (some ⟨b, 0, none⟩), .int .u8 c] w fun e w' => e = .returned .nilIface ∧ (Lib.BuilderAtF 58 5 B b (.pointer (some ⟨b, 0, none⟩)) (bs ++ [.int .u8 c]) w' ∧ Below B w w' ∧ Lib.OthersKept 5 (some b) w w') :=
 Any.Builder_WriteByte_k LWb LXb B b bs c w h hlen hBw
theorem bd_rp (s : ByteArray) (c : Nat) (w : World) (hc : c ≤ 9223372036854775807) (hlen : s.size * c ≤ 140737488355328) :
  Calls Tryz.prog 21 #[.string s, .int .i64 c] w fun e w' => e = .returned (.string ⟨(Lib.repeatL s.data.toList c).toArray⟩) ∧ Below w.heap.size w w' :=
 Any.strings_Repeat Llays105 LBuilder_Extra_105 s c w hc hlen
end
section
open Go.ChangeShapes Go.WideShapes Go.ChangeAt Go.RowKit
theorem infoS : (Tryz.prog.info? 9).map (fun i => (i.zero, i.size, i.bytes)) = some (some (.string ⟨#[]⟩), 1, 16) := by kernel_rfl
def strV (l : List (List UInt8)) : List Value := l.map fun x => .string (str x)
theorem strV_snoc (l : List (List UInt8)) (x : List UInt8) : strV (l ++ [x]) = strV l ++ [.string (str x)] := by simp [strV]
theorem pcs_len (l : List Tk) : (pcs l).length ≤ l.length := by
 induction l with
 | nil => simp [pcs]
 | cons t l ih =>
  have e : pcs (t :: l) = (if 1 ≤ t.k ∧ t.k ≤ 4 then [t.piece] else []) ++ pcs l := by simp [pcs]
  rw [e, List.length_append, List.length_cons]
  split <;> simp <;> omega
theorem join_of_row {w : World} {B : Nat} {v : Value} (l : List (List UInt8)) (h : w.ownsRow B 9 1 v l.length (strV l)) (hl : l.length ≤ 1000000) (hj : (Lib.join l [32]).length ≤ 140737488355328) :
  Calls Tryz.prog 46 #[v, .string ⟨#[32]⟩] w fun e w' => e = .returned (.string (str (Lib.join l [32]))) ∧ Below w.heap.size w w' := by
 by_cases h0 : l = []
 ·subst h0
  have hv : ∃ (a : Option Addr) (c : Nat), v = .slice a 0 c := by
   rcases h.2 with ⟨h1, _⟩ | ⟨g, cap, cur, hv, _⟩
   ·exact ⟨_, _, h1⟩
   ·exact ⟨_, _, hv⟩
  obtain ⟨a, c, rfl⟩ := hv
  exact (Lstrings_Join_none a c ⟨#[32]⟩ w).mono fun e w' h => ⟨h.1, by rw [h.2]; exact Below.refl _ _⟩
 ·obtain ⟨m, hm⟩ : ∃ m, l.length = m + 1 := ⟨l.length - 1, by have := List.length_pos_iff.2 h0; omega⟩
  have h2 := h
  rw [hm] at h2
  obtain ⟨g, cap, hv⟩ := ownsRow_succ h2
  subst hv
  have hc : ∀ (j : Nat) x, (l.map str)[j]? = some x → w.cell? ⟨g, 0 + j, none⟩ = some (.string x) := fun j x hx => by
   have hj' : j < l.length := by have := (List.getElem?_eq_some_iff.1 hx).1; simpa using this
   rw [Nat.zero_add, h2.cellAt j (by omega)]
   rw [List.getElem?_map] at hx
   simp only [strV, List.getElem?_map]
   cases hq : l[j]? with
   | none => rw [hq] at hx; cases hx
   | some y => rw [hq] at hx; cases hx; rfl
  have hml : (l.map str).map (fun x : ByteArray => x.data.toList) = l := by
   rw [List.map_map]
   conv => rhs; rw [← List.map_id l]
   apply List.map_congr_left
   intro x _
   exact str_list x
  have hblt : g < w.heap.size := by
   exact (h2.lt g rfl).2
  have hcap : m + 1 ≤ cap := by
   rcases h2.2 with ⟨h1, _⟩ | ⟨g', cap', cur, hv, _, _, hr, _⟩
   ·cases h1
   ·cases hv; exact hr
  have := Lstrings_Join g 0 cap (l.map str) ⟨#[32]⟩ w hc hblt (by simp; omega) (by simp; omega) (by rw [hml]; exact hj)
  rw [hml, List.length_map, hm] at this
  exact this
def KOk (T : List (Tk × Nat)) : Prop := ∀ x ∈ T, (x.1.k = 1 ∨ x.1.k = 2 ∨ x.1.k = 3 ∨ x.1.k = 4 ∨ x.1.k = 5) ∧ x.1.n < 18446744073709551616
theorem join_any (v : Value) (T : List (Tk × Nat)) (w : World) (h1 : RowAt w v T) (hn : T.length ≤ 1000000) (hk : KOk T) (hj : (joinT (bare T)).length ≤ 100000000000) (hT : Tb w) :
  Calls Tryz.prog 22 #[v] w fun e w' => e = .returned (.string (str (joinT (bare T)))) ∧ Below w.heap.size w w' := by
 obtain ⟨b1, o1, n1, c1, rfl, hn1, hl1, hc1⟩ := h1.row
 obtain ⟨i0, hi, hz0, hz1, hz2⟩ := info_parts infoS
 have HC1 := Lib.hid hc1
 have HK := Lib.hid hk
 obtain ⟨N, hN⟩ : ∃ N, T.length = N := ⟨_, rfl⟩
 rw [hN] at hn hn1
 subst hn1
 have HN := Lib.hid hN
 clear hc1 h1 hN hk
 go_enter Tryz.func22, Tryz.ntmps22
 go_wp2
 go_loopw [3, 8] (fun r i wr => ∃ k : Nat, k ≤ n1 ∧ i = .int .i64 k ∧ wr.ownsRow w.heap.size 9 1 r (pcs (bare (T.take k))).length (strV (pcs (bare (T.take k)))) ∧ Below w.heap.size w wr) (fun _ i _ => n1 - (intOf i).toNat)
 case atStart => exact ⟨0, Nat.zero_le _, rfl, World.ownsRow_nil _ _ _ _, Below.refl _ _⟩
 case round =>
  obtain ⟨k, hkn, rfl, ho, hB⟩ := hrel
  by_cases hlt : k < n1
  ·have hlt' : k < T.length := by rw [HN.out]; exact hlt
   obtain ⟨p0, p1, p2, p3⟩ := HC1.out k hlt'
   have q0 := stay hB p0
   have q1 := stay hB p1
   have q2 := stay hB p2
   have q3 := stay hB p3
   have hl2 : b1 < wr.heap.size := Nat.lt_of_lt_of_le hl1 hB.size
   obtain ⟨hkk, hnn⟩ := HK.out T[k] (List.getElem_mem hlt')
   have hsn : pcs (bare (T.take (k + 1))) = pcs (bare (T.take k)) ++ pcs [T[k].1] := by
    have hb : bare (T.take (k + 1)) = bare (T.take k) ++ [T[k].1] := by unfold bare; rw [List.take_succ_eq_append_getElem hlt', List.map_append]; rfl
    rw [hb, pcs_app]
   have hpl : (pcs (bare (T.take k))).length ≤ 1000000 := by
    have := pcs_len (bare (T.take k))
    have h2 : (bare (T.take k)).length ≤ T.length := by simp only [bare, List.length_map, List.length_take]; omega
    have := HN.out
    omega
   have HSN := Lib.hid hsn
   clear hsn p0 p1 p2 p3
   generalize T[k] = x at q0 q1 q2 q3 hkk hnn HSN
   obtain ⟨⟨xk, xt, xn⟩, xa⟩ := x
   simp only at q0 q1 q2 q3 hkk hnn
   obtain ⟨M, hM⟩ : ∃ M, M = (pcs (bare (T.take k))).length := ⟨_, rfl⟩
   obtain ⟨L, hL⟩ : ∃ L, L = strV (pcs (bare (T.take k))) := ⟨_, rfl⟩
   rw [← hM, ← hL] at ho
   rw [← hM] at hpl
   have HM := Lib.hid hM
   have HL := Lib.hid hL
   clear hM hL
   rcases hkk with rfl | rfl | rfl | rfl | rfl
   ·have hP : pcs [⟨1, xt, xn⟩] = [xt] := rfl
    rw [hP] at HSN
    go_wp2_with (at_builtin; refine wpList_append_own _ rfl _ _ 50 rfl w.heap.size 9 i0 _ 1 16 Tryz.underlying50 hi hz0 hz1 hz2 rfl (by decide) _ M L rfl ((ho.alloc _).alloc _) ⟨wr.heap.size + 1, 0, none⟩ 1 1 [.string (str (xt))] rfl rfl ?cN ?c0 ?c1 ?c2 ?c3 ?_)
    case cN => have hN2 := news_ok [.string (str xt)] 9 (wr.alloc (.cells #[.int .u8 1, .string (str xt), .int .u64 (xn : Int), .int .i64 (xa : Int)] 95)); rw [World.size_alloc] at hN2; exact hN2
    case c0 => intro u hu; simp at hu; subst hu; rfl
    case c1 => unfold maxLen; omega
    case c2 => omega
    case c3 => have h1 := hB.size; simp; omega
    intro v' w3 ho' hgr _
    have hBA : Below w.heap.size w ((wr.alloc (.cells #[.int .u8 1, .string (str xt), .int .u64 (xn : Int), .int .i64 (xa : Int)] 95)).alloc (.cells #[.string (str xt)] 9)) := aB2 (aB2 hB _) _
    have hB3 : Below w.heap.size w w3 := hBA.grown hgr hBA.size (fun j hj => (ho.lt j hj).1)
    have ho3 : w3.ownsRow w.heap.size 9 1 v' (pcs (bare (T.take (k + 1)))).length (strV (pcs (bare (T.take (k + 1))))) := by rw [HSN.out, List.length_append, strV_snoc, ← HM.out, ← HL.out]; exact ho'
    clear ho' hgr ho
    go_wp2
    go_roundw
    case rel => exact ⟨k + 1, by omega, by go_num, ho3, hB3⟩
    case measure => first | (simp [intOf]; done) | (simp [intOf]; omega)
   ·have hP : pcs [⟨2, xt, xn⟩] = [xt] := rfl
    rw [hP] at HSN
    go_wp2_with (at_builtin; refine wpList_append_own _ rfl _ _ 50 rfl w.heap.size 9 i0 _ 1 16 Tryz.underlying50 hi hz0 hz1 hz2 rfl (by decide) _ M L rfl ((ho.alloc _).alloc _) ⟨wr.heap.size + 1, 0, none⟩ 1 1 [.string (str (xt))] rfl rfl ?cN ?c0 ?c1 ?c2 ?c3 ?_)
    case cN => have hN2 := news_ok [.string (str xt)] 9 (wr.alloc (.cells #[.int .u8 2, .string (str xt), .int .u64 (xn : Int), .int .i64 (xa : Int)] 95)); rw [World.size_alloc] at hN2; exact hN2
    case c0 => intro u hu; simp at hu; subst hu; rfl
    case c1 => unfold maxLen; omega
    case c2 => omega
    case c3 => have h1 := hB.size; simp; omega
    intro v' w3 ho' hgr _
    have hBA : Below w.heap.size w ((wr.alloc (.cells #[.int .u8 2, .string (str xt), .int .u64 (xn : Int), .int .i64 (xa : Int)] 95)).alloc (.cells #[.string (str xt)] 9)) := aB2 (aB2 hB _) _
    have hB3 : Below w.heap.size w w3 := hBA.grown hgr hBA.size (fun j hj => (ho.lt j hj).1)
    have ho3 : w3.ownsRow w.heap.size 9 1 v' (pcs (bare (T.take (k + 1)))).length (strV (pcs (bare (T.take (k + 1))))) := by rw [HSN.out, List.length_append, strV_snoc, ← HM.out, ← HL.out]; exact ho'
    clear ho' hgr ho
    go_wp2
    go_roundw
    case rel => exact ⟨k + 1, by omega, by go_num, ho3, hB3⟩
    case measure => first | (simp [intOf]; done) | (simp [intOf]; omega)
   ·have hP : pcs [⟨3, xt, xn⟩] = [Lib.decDigits xn] := rfl
    rw [hP] at HSN
    have hD := digitsOf_any xn hnn (wr.alloc (.cells #[.int .u8 3, .string (str xt), .int .u64 (xn : Int), .int .i64 (xa : Int)] 95)) ((hT.of hB).alloc _).pow
    go_wp2_with (first | (go_at_call 45; ((with_reducible refine hD.mono ?_); (rintro e w5 ⟨rfl, hb5⟩); have ho5 := own_of (ho.alloc _) hb5; have hB5 : Below w.heap.size w w5 := (aB2 hB _).trans (hb5.mono (by have := hB.size; simp; omega)); have hg5 : wr.heap.size < w5.heap.size := (by have := hb5.size; simp at this; omega))) | (at_builtin; refine wpList_append_own _ rfl _ _ 50 rfl w.heap.size 9 i0 _ 1 16 Tryz.underlying50 hi hz0 hz1 hz2 rfl (by decide) _ M L rfl (ho5.alloc _) ⟨w5.heap.size, 0, none⟩ 1 1 [.string (str (Lib.decDigits xn))] rfl rfl ?cN ?c0 ?c1 ?c2 ?c3 ?_))
    case cN => exact news_ok [.string (str (Lib.decDigits xn))] 9 w5
    case c0 => intro u hu; simp at hu; subst hu; rfl
    case c1 => unfold maxLen; omega
    case c2 => omega
    case c3 => have h1 := hB.size; have h5 := hB5.size; simp; omega
    intro v' w3 ho' hgr _
    have hBA : Below w.heap.size w (w5.alloc (.cells #[.string (str (Lib.decDigits xn))] 9)) := aB2 hB5 _
    have hB3 : Below w.heap.size w w3 := hBA.grown hgr hBA.size (fun j hj => (ho.lt j hj).1)
    have ho3 : w3.ownsRow w.heap.size 9 1 v' (pcs (bare (T.take (k + 1)))).length (strV (pcs (bare (T.take (k + 1))))) := by rw [HSN.out, List.length_append, strV_snoc, ← HM.out, ← HL.out]; exact ho'
    clear ho' hgr ho hD
    go_wp2
    go_roundw
    case rel => exact ⟨k + 1, by omega, by go_num, ho3, hB3⟩
    case measure => first | (simp [intOf]; done) | (simp [intOf]; omega)
   ·have hP : pcs [⟨4, xt, xn⟩] = [xt] := rfl
    rw [hP] at HSN
    go_wp2_with (at_builtin; refine wpList_append_own _ rfl _ _ 50 rfl w.heap.size 9 i0 _ 1 16 Tryz.underlying50 hi hz0 hz1 hz2 rfl (by decide) _ M L rfl ((ho.alloc _).alloc _) ⟨wr.heap.size + 1, 0, none⟩ 1 1 [.string (str (xt))] rfl rfl ?cN ?c0 ?c1 ?c2 ?c3 ?_)
    case cN => have hN2 := news_ok [.string (str xt)] 9 (wr.alloc (.cells #[.int .u8 4, .string (str xt), .int .u64 (xn : Int), .int .i64 (xa : Int)] 95)); rw [World.size_alloc] at hN2; exact hN2
    case c0 => intro u hu; simp at hu; subst hu; rfl
    case c1 => unfold maxLen; omega
    case c2 => omega
    case c3 => have h1 := hB.size; simp; omega
    intro v' w3 ho' hgr _
    have hBA : Below w.heap.size w ((wr.alloc (.cells #[.int .u8 4, .string (str xt), .int .u64 (xn : Int), .int .i64 (xa : Int)] 95)).alloc (.cells #[.string (str xt)] 9)) := aB2 (aB2 hB _) _
    have hB3 : Below w.heap.size w w3 := hBA.grown hgr hBA.size (fun j hj => (ho.lt j hj).1)
    have ho3 : w3.ownsRow w.heap.size 9 1 v' (pcs (bare (T.take (k + 1)))).length (strV (pcs (bare (T.take (k + 1))))) := by rw [HSN.out, List.length_append, strV_snoc, ← HM.out, ← HL.out]; exact ho'
    clear ho' hgr ho
    go_wp2
    go_roundw
    case rel => exact ⟨k + 1, by omega, by go_num, ho3, hB3⟩
    case measure => first | (simp [intOf]; done) | (simp [intOf]; omega)
   ·have hP : pcs [⟨5, xt, xn⟩] = [] := rfl
    rw [hP, List.append_nil] at HSN
    go_wp2
    go_roundw
    case rel => exact ⟨k + 1, by omega, by go_num, by rw [HSN.out, ← HM.out, ← HL.out]; exact ho.alloc _, aB2 hB _⟩
    case measure => first | (simp [intOf]; done) | (simp [intOf]; omega)
  ·obtain rfl : k = n1 := by omega
   have hlb : (pcs (bare T)).length ≤ 1000000 := by
    have := pcs_len (bare T)
    have h2 : (bare T).length = T.length := by simp [bare]
    have := HN.out
    omega
   rw [List.take_of_length_le (by rw [HN.out]; exact Nat.le_refl _)] at ho
   have hJ := join_of_row (pcs (bare T)) ho hlb (by unfold joinT at hj; omega)
   have hjj : Lib.join (pcs (bare T)) [32] = joinT (bare T) := rfl
   rw [hjj] at hJ
   clear hjj ho
   go_wp2_with (go_at_call 46; ((with_reducible refine hJ.mono ?_); rintro e w2 ⟨rfl, hb2⟩))
   go_ret
   exact ⟨rfl, hB.trans (hb2.mono hB.size)⟩
end
section
open Go Go.ChangeShapes Go.WideShapes Go.ChangeAt Go.RowKit m9
attribute [local go_sem] Oper.semAt_some
theorem ki_below0 {B : Nat} {w A A' : World} (hk : Ki 5 B A A') (hB : w.heap.size ≤ B) (h : Below w.heap.size w A) : Below w.heap.size w A' :=
 ⟨hk.os.trans h.os, hk.tape.trans h.tape, hk.output.trans h.output, Nat.le_trans h.size hk.size, fun j hj => by
  have hl : j < A.heap.size := Nat.lt_of_lt_of_le hj h.size
  have e1 : A.heap[j]? = some A.heap[j] := Array.getElem?_eq_getElem hl
  rw [hk.at' j _ e1 (.inl (by omega)), ← e1]
  exact h.block j hj⟩
theorem ki_builder {B b : Nat} {T : TypeId} {bs : List Value} {B0 : Nat} {A A' : World} (hk : Ki 5 B A A') (hb : b < B) (h : Lib.IsBuilderF T 5 B0 b bs A) : Lib.IsBuilderF T 5 B0 b bs A' := by
 have one : ∀ p, Lib.BuilderAtF T 5 B0 b p bs A → Lib.BuilderAtF T 5 B0 b p bs A' := fun p ⟨h1, v, h2, h3, h4⟩ => by
  refine ⟨h1, v, hk.at' b _ h2 (.inl hb), ⟨h3.1, ?_⟩, h4⟩
  rcases h3.2 with h0 | ⟨g, cap, cur, fz, hv, hg, hh, hr⟩
  ·exact .inl h0
  ·exact .inr ⟨g, cap, cur, fz, hv, hg, hk.at' g _ hh (.inr ⟨_, _, rfl⟩), hr⟩
 exact h.elim (fun h => .inl (one _ h)) (fun h => .inr (one _ h))
theorem below_builder {b : Nat} {T : TypeId} {bs : List Value} {B0 : Nat} {A A' : World} (hk : Below A.heap.size A A') (hb : b < A.heap.size) (h : Lib.IsBuilderF T 5 B0 b bs A) : Lib.IsBuilderF T 5 B0 b bs A' := ki_builder (B := A.heap.size) (ki_below hk) hb h
theorem repL (n : Nat) : Lib.repeatL [32, 32] n = List.replicate (2 * n) 32 := by
 induction n with
 | zero => rfl
 | succ n ih => rw [Lib.repeatL, ih, show 2 * (n + 1) = 2 * n + 1 + 1 by omega, List.replicate_succ, List.replicate_succ]; rfl
theorem own_rowAt {w : World} {B : Nat} {v : Value} {T : List Tk} (h : w.ownsRow B 95 4 v (zs T).length (cellsZ (zs T))) (hT : T ≠ []) : RowAt w v (T.map fun t => (t, 0)) := by
 have hp : 0 < (zs T).length := by rw [zs_len]; exact List.length_pos_iff.2 hT
 obtain ⟨g, cap, rfl, hg, hl⟩ := h.form hp
 refine ⟨g, 0, _, cap, rfl, by simp [zs], hl, fun i hi => ?_⟩
 have hi' : i < T.length := by simpa using hi
 have hz : i < (zs T).length := by rw [zs_len]; exact hi'
 obtain ⟨a0, a1, a2, a3⟩ := cellsZ_at (zs T) i hz
 have hm : (cellsZ (zs T)).length = (zs T).length * 4 := cellsZ_len _
 have e : (zs T)[i] = (T[i], 0) := by simp [zs]
 rw [e] at a0 a1 a2 a3
 simp only [List.getElem_map, Nat.zero_add]
 exact ⟨(h.cellAt (i * 4) (by omega)).trans a0, (h.cellAt (i * 4 + 1) (by omega)).trans a1, (h.cellAt (i * 4 + 2) (by omega)).trans a2, (h.cellAt (i * 4 + 3) (by omega)).trans a3⟩
theorem toks_kok {T : List Tk} (h : Toks T) : KOk (T.map fun t => (t, 0)) := fun x hx => by
 obtain ⟨t, ht, rfl⟩ := List.mem_map.1 hx
 obtain ⟨m, hm⟩ := h t ht
 rcases hm with ⟨h1, _, h2, _⟩ | ⟨h1, _, _, _, h2, _⟩ | ⟨h1, _, h2, _⟩
 ·exact ⟨by rcases h1 with h | h <;> simp [h], by simp [h2]⟩
 ·exact ⟨by simp [h1], h2⟩
 ·exact ⟨by simp [h1], by simp [h2]⟩
theorem stH_pos (k : Nat) (nm fr : List UInt8) (sec mu : Bool) (ex : List Xp) (ar : List (List UInt8)) : 0 < (stH k nm fr sec mu ex ar).length := by
 unfold stH
 by_cases h1 : k = 1
 ·rw [if_pos h1]; exact Nat.succ_pos _
 rw [if_neg h1]
 by_cases h2 : k = 2
 ·rw [if_pos h2]; exact Nat.succ_pos _
 rw [if_neg h2]
 by_cases h3 : k = 3
 ·rw [if_pos h3]; exact Nat.succ_pos _
 rw [if_neg h3]
 by_cases h4 : k = 4
 ·rw [if_pos h4]; exact Nat.succ_pos _
 rw [if_neg h4]
 by_cases h5 : k = 5
 ·rw [if_pos h5]; exact Nat.succ_pos _
 rw [if_neg h5]
 by_cases h6 : k = 6
 ·rw [if_pos h6]; exact Nat.succ_pos _
 rw [if_neg h6]
 by_cases h7 : k = 7
 ·rw [if_pos h7]; exact Nat.succ_pos _
 rw [if_neg h7]
 by_cases h8 : k = 8
 ·rw [if_pos h8]; exact Nat.succ_pos _
 rw [if_neg h8]
 by_cases h9 : k = 9
 ·rw [if_pos h9]; exact Nat.succ_pos _
 rw [if_neg h9]
 by_cases h10 : k = 10
 ·rw [if_pos h10]; exact Nat.succ_pos _
 rw [if_neg h10]
 by_cases h11 : k = 11
 ·rw [if_pos h11]; exact Nat.succ_pos _
 rw [if_neg h11]
 exact Nat.succ_pos _
theorem stH_ne (k : Nat) (nm fr : List UInt8) (sec mu : Bool) (ex : List Xp) (ar : List (List UInt8)) : stH k nm fr sec mu ex ar ≠ [] := List.length_pos_iff.1 (stH_pos k nm fr sec mu ex ar)
mutual
theorem stL_ne : ∀ (d : Nat) (s : St), ∀ x ∈ stL d s, x.2 ≠ []
 | d, .mk k nm fr sec mu ex ar bd el, x, hx => by
  rw [stL] at hx
  rcases List.mem_cons.1 hx with rfl | hx
  ·exact stH_ne _ _ _ _ _ _ _
  ·by_cases c : 5 ≤ k ∧ k ≤ 8
   ·rw [if_pos c] at hx
    rcases List.mem_append.1 hx with hx | hx
    ·exact stsL_ne (d + 1) bd x hx
    ·rcases List.mem_append.1 hx with hx | hx
     ·by_cases c2 : el.isEmpty = true
      ·rw [if_pos c2] at hx; simp at hx
      ·rw [if_neg c2] at hx
       rcases List.mem_cons.1 hx with rfl | hx
       ·simp
       ·exact stsL_ne (d + 1) el x hx
     ·rw [List.mem_singleton.1 hx]; simp
   ·rw [if_neg c] at hx; simp at hx
theorem stsL_ne : ∀ (d : Nat) (l : List St), ∀ x ∈ stsL d l, x.2 ≠ []
 | d, [], x, hx => by rw [stsL] at hx; simp at hx
 | d, s :: r, x, hx => by
  rw [stsL] at hx
  rcases List.mem_append.1 hx with hx | hx
  ·exact stL_ne d s x hx
  ·exact stsL_ne d r x hx
end
theorem pgL_ne (l : List Fd) : ∀ x ∈ pgL l, x.2 ≠ [] := fun x hx => by
 unfold pgL at hx
 obtain ⟨f, _, hx⟩ := List.mem_flatMap.1 hx
 unfold fdL at hx
 rcases List.mem_cons.1 hx with rfl | hx
 ·simp [hdT]
 ·rcases List.mem_append.1 hx with hx | hx
  ·exact stsL_ne 1 f.bd x hx
  ·rw [List.mem_singleton.1 hx]; simp [tlT]
theorem lns_take (L : List (Nat × List Tk)) (k : Nat) (d : Nat) (T : List Tk) (h : L[k]? = some (d, T)) : lnsT (L.take (k + 1)) = lnsT (L.take k) ++ lnT d T := by
 obtain ⟨hk, e⟩ := List.getElem?_eq_some_iff.1 h
 unfold lnsT
 rw [List.take_succ_eq_append_getElem hk, List.flatMap_append, e]
 simp
theorem lns_le (L : List (Nat × List Tk)) (k : Nat) : (lnsT (L.take k)).length ≤ (lnsT L).length := by
 unfold lnsT
 conv => rhs; rw [← List.take_append_drop k L, List.flatMap_append, List.length_append]
 omega
end
end Go.Proofs.YtkibkaoffgnmkaaGreatDoor
