/- Contracts of the reader: ahead. -/
import Derived.Test.YtfpoflddnlbpjaaGreatDoorZgP
import Derived.Test.YtfpoflddnlbpjaaGreatDoorZaP
import Derived.BigQuiet
namespace Go.Proofs.YtfpoflddnlbpjaaGreatDoor
open Go.ChangeShapes Go.WideShapes Go.ChangeAt Go.RowKit
set_option linter.unusedVariables false
def ob (v : Value) (T : List (Tk × Int)) : Option Nat := if T = [] then none else v.ownBlock
theorem RowZ.onlyo {w w' : World} {v : Value} {T : List (Tk × Int)} {S : Nat → Prop} (h : RowZ w v T) (ho : Only S w w') (hn : ∀ j, ob v T = some j → ¬ S j) : RowZ w' v T := by
  by_cases e : T = []
  · subst e
    obtain ⟨ma, c, rfl, hc⟩ := h.row
    exact ⟨ma, c, rfl, fun i hi => by simp at hi⟩
  · exact h.only ho (fun j hj => hn j (by unfold ob; rw [if_neg e]; exact hj))
theorem RowZ.ob_lt {w : World} {v : Value} {T : List (Tk × Int)} (h : RowZ w v T) {j : Nat} (hj : ob v T = some j) : j < w.heap.size := by
  unfold ob at hj
  by_cases e : T = []
  · rw [if_pos e] at hj; cases hj
  · rw [if_neg e] at hj
    obtain ⟨ma, c, rfl, hc⟩ := h.row
    obtain ⟨b, o, rfl, hl, _⟩ := hc 0 (List.length_pos_iff.2 e)
    simp only [Value.ownBlock, Option.some.injEq] at hj
    subst hj
    exact hl
structure IsRd (w : World) (rb : Nat) (v : Value) (T : List (Tk × Int)) (p d : Int) : Prop where
  c0 : w.cell? ⟨rb, 0, none⟩ = some v
  c1 : w.cell? ⟨rb, 1, none⟩ = some (.int .i64 p)
  c2 : w.cell? ⟨rb, 2, none⟩ = some (.int .i64 d)
  f : ∀ k, w.frozen? ⟨rb, k, none⟩ = false
  row : RowZ w v T
  ne : ¬ ob v T = some rb
  len : T.length ≤ 140737488355328
  lo : -9223372036854775808 ≤ p
  hi : p < 9223372036854775808
theorem IsRd.lt {w : World} {rb : Nat} {v : Value} {T : List (Tk × Int)} {p d : Int} (h : IsRd w rb v T p d) : rb < w.heap.size := World.block_lt_of_cell? w _ h.c0
theorem IsRd.of {w w' : World} {rb : Nat} {v : Value} {T : List (Tk × Int)} {p d : Int} (h : IsRd w rb v T p d) (hb : Below w.heap.size w w') : IsRd w' rb v T p d :=
  { h with c0 := stay hb h.c0, c1 := stay hb h.c1, c2 := stay hb h.c2, f := fun k => ((hb.frozen (p := ⟨rb, k, none⟩) h.lt).trans (h.f k)), row := h.row.of hb }
theorem IsRd.only {w w' : World} {rb : Nat} {v : Value} {T : List (Tk × Int)} {p d : Int} {S : Nat → Prop} (h : IsRd w rb v T p d) (ho : Only S w w') (h1 : ¬ S rb) (h2 : ∀ j, ob v T = some j → ¬ S j) : IsRd w' rb v T p d :=
  { h with c0 := ho.cell h1 h.c0, c1 := ho.cell h1 h.c1, c2 := ho.cell h1 h.c2, f := fun k => ((ho.frozen (a := ⟨rb, k, none⟩) h.lt h1).trans (h.f k)), row := h.row.onlyo ho h2 }
theorem only_one (w : World) (b o : Nat) (v : Value) : Only (fun j => j = b) w (w.setCell ⟨b, o, none⟩ v) := (Only.refl _ w).setCell rfl
theorem IsRd.setP {w : World} {rb : Nat} {v : Value} {T : List (Tk × Int)} {p d : Int} (h : IsRd w rb v T p d) {q : Int} (h1 : -9223372036854775808 ≤ q) (h2 : q < 9223372036854775808) : IsRd (w.setCell ⟨rb, 1, none⟩ (.int .i64 q)) rb v T q d :=
  { c0 := cset h.c0 (by omega), c1 := cset_same h.c1, c2 := cset h.c2 (by omega), f := fun k => by rw [World.frozen?_setCell]; exact h.f k, row := h.row.onlyo (only_one _ _ _ _) (fun j hj e => h.ne (by rw [hj, e])), ne := h.ne, len := h.len, lo := h1, hi := h2 }
theorem IsRd.setD {w : World} {rb : Nat} {v : Value} {T : List (Tk × Int)} {p d : Int} (h : IsRd w rb v T p d) {e : Int} : IsRd (w.setCell ⟨rb, 2, none⟩ (.int .i64 e)) rb v T p e :=
  { c0 := cset h.c0 (by omega), c1 := cset h.c1 (by omega), c2 := cset_same h.c2, f := fun k => by rw [World.frozen?_setCell]; exact h.f k, row := h.row.onlyo (only_one _ _ _ _) (fun j hj e => h.ne (by rw [hj, e])), ne := h.ne, len := h.len, lo := h.lo, hi := h.hi }
def tokAt (T : List (Tk × Int)) (p : Int) : Tk := if 0 ≤ p then (T.getD p.toNat (⟨0, [], 0⟩, 0)).1 else ⟨0, [], 0⟩
abbrev tokV (t : Tk) : Value := .agg #[.int .u8 (t.k : Int), .string (str t.t), .int .u64 (t.n : Int), .int .i64 0]
theorem tokAt_in {T : List (Tk × Int)} {i : Nat} (h : i < T.length) : tokAt T (i : Int) = T[i].1 := by unfold tokAt; rw [if_pos (by omega), Int.toNat_natCast, List.getD_eq_getElem?_getD, List.getElem?_eq_getElem h]; rfl
theorem tokAt_out {T : List (Tk × Int)} {p : Int} (h : p < 0 ∨ (T.length : Int) ≤ p) : tokAt T p = ⟨0, [], 0⟩ := by
  unfold tokAt
  by_cases h0 : 0 ≤ p
  · rw [if_pos h0, List.getD_eq_getElem?_getD, List.getElem?_eq_none (by omega)]; rfl
  · rw [if_neg h0]
set_option maxRecDepth 100000 in
set_option maxHeartbeats 2000000 in
theorem ahead_any {w : World} {rb : Nat} {v : Value} {T : List (Tk × Int)} {p d : Int} (h : IsRd w rb v T p d) (n : Int) (hn : n = 0 ∨ n = 1) :
    Calls Tryz.prog 202 #[.pointer (some ⟨rb, 0, none⟩), .int .i64 n] w fun e w' => e = .returned (tokV (tokAt T (p + n))) ∧ Below w.heap.size w w' := by
  obtain ⟨ma, c, hv, hc⟩ := h.row.row
  subst hv
  have c0 := h.c0
  have c1 := h.c1
  have hlt := h.lt
  have hlen := h.len
  have hlo := h.lo
  have hhi := h.hi
  by_cases hin : 0 ≤ p + n ∧ p + n < T.length
  · obtain ⟨i, hi⟩ : ∃ i : Nat, p + n = i := ⟨(p + n).toNat, by omega⟩
    have hil : i < T.length := by omega
    have hw : IntKind.i64.wrap (p + n) = (i : Int) := by rw [IntKind.wrap_i64]; omega
    obtain ⟨b, o, rfl, hb, q0, q1, q2, q3⟩ := hc i hil
    have ht := tokAt_in hil
    rw [hi, ht]
    generalize T[i].1 = t at q0 q1 q2
    generalize T[i].2 = z at q3
    obtain ⟨N, hN⟩ : ∃ N, N = T.length := ⟨_, rfl⟩
    rw [← hN] at c0 hil hlen
    clear hc h ht hN hin hi hlo hhi
    go_enter Tryz.func202, Tryz.ntmps202
    go_wp2
    exact bodyPost_ret (res_tok rfl _ _ w.heap.size _ _ _ _ rfl (rowG_alloc (rowG_at _ _ _ _ rfl) _)) rfl ⟨rfl, aB (aB (Below.refl _ _) _) _⟩
  · rw [tokAt_out (T := T) (p := p + n) (by omega)]
    obtain ⟨N, hN⟩ : ∃ N, N = T.length := ⟨_, rfl⟩
    rw [← hN] at c0 hlen hin
    obtain ⟨z, hz⟩ : ∃ z, IntKind.i64.wrap (p + n) = z := ⟨_, rfl⟩
    have hzz : z < 0 ∨ (N : Int) ≤ z := by rw [← hz, IntKind.wrap_i64]; omega
    clear hc h hN hin hlo hhi
    rcases hzz with hzz | hzz
    · go_enter Tryz.func202, Tryz.ntmps202
      go_wp2
      exact bodyPost_ret (res_tok rfl _ _ w.heap.size _ _ _ _ rfl (rowG_at _ _ _ _ rfl)) rfl ⟨rfl, aB (Below.refl _ _) _⟩
    · have hzz' : ¬ z < 0 := by omega
      go_enter Tryz.func202, Tryz.ntmps202
      go_wp2
      exact bodyPost_ret (res_tok rfl _ _ w.heap.size _ _ _ _ rfl (rowG_at _ _ _ _ rfl)) rfl ⟨rfl, aB (Below.refl _ _) _⟩
end Go.Proofs.YtfpoflddnlbpjaaGreatDoor

/- Contracts of the reader: take, signs, kind. -/
namespace Go.Proofs.YtfpoflddnlbpjaaGreatDoor
open Go.ChangeShapes Go.WideShapes Go.ChangeAt Go.RowKit
set_option linter.unusedVariables false
theorem region_below {P : Program} {id : Nat} {Q : Exit → Act → World → Prop} {a : Act} {w : World} {l : List Oper} (hm : P.follows .mixedOrders = true) (hB : Region.lexB .any l.toArray = true)
    (h : wpQuiet P l.toArray (fun w' => Below w.heap.size w w') (fun a' => ∀ w', Below w.heap.size w w' → Q .normal a' w') l a) : (Code.region id l.toArray true).wp P Q a w :=
  wp_region_quiet (C := fun w' => Below w.heap.size w w') hm hB (bdN (Below.refl _ w) 1) h
theorem strL_inj {a b : List UInt8} : (str a).toList = (str b).toList ↔ a = b := by rw [ByteArray.toList_eq, ByteArray.toList_eq, str_list, str_list]
theorem tok_ne (xk xn tk tn : Nat) (xt tt : List UInt8) (c : Bool) (hc : c = false ↔ (⟨xk, xt, xn⟩ : Tk) = ⟨tk, tt, tn⟩) (w : World) :
    (if (xk : Int) = tk then if (str xt).toList = (str tt).toList then if (xn : Int) = tn then Result.ok (Next.value (.bool false)) w else Result.ok (Next.value (.bool true)) w else Result.ok (Next.value (.bool true)) w else Result.ok (Next.value (.bool true)) w) = Result.ok (Next.value (.bool c)) w := by
  simp only [strL_inj, Int.ofNat_inj]
  by_cases h1 : xk = tk <;> by_cases h2 : xt = tt <;> by_cases h3 : xn = tn <;> simp only [h1, h2, h3, if_true, if_false] <;> (cases c <;> simp_all)
theorem tok_eq (xk xn tk tn : Nat) (xt tt : List UInt8) (c : Bool) (hc : c = true ↔ (⟨xk, xt, xn⟩ : Tk) = ⟨tk, tt, tn⟩) (w : World) :
    (if (xk : Int) = tk then if (str xt).toList = (str tt).toList then if (xn : Int) = tn then Result.ok (Next.value (.bool true)) w else Result.ok (Next.value (.bool false)) w else Result.ok (Next.value (.bool false)) w else Result.ok (Next.value (.bool false)) w) = Result.ok (Next.value (.bool c)) w := by
  simp only [strL_inj, Int.ofNat_inj]
  by_cases h1 : xk = tk <;> by_cases h2 : xt = tt <;> by_cases h3 : xn = tn <;> simp only [h1, h2, h3, if_true, if_false] <;> (cases c <;> simp_all)
theorem ahead0 {w : World} {rb : Nat} {v : Value} {T : List (Tk × Int)} {p d : Int} (h : IsRd w rb v T p d) : Calls Tryz.prog 202 #[.pointer (some ⟨rb, 0, none⟩), .int .i64 0] w fun e w' => e = .returned (tokV (tokAt T p)) ∧ Below w.heap.size w w' := by
  have := ahead_any h 0 (.inl rfl)
  rw [Int.add_zero] at this
  exact this
structure TkP (w w' : World) (rb : Nat) (v : Value) (T : List (Tk × Int)) (p d : Int) : Prop where
  rd : IsRd w' rb v T p d
  only : Only (fun j => j = rb) w w'

set_option maxRecDepth 100000 in
set_option maxHeartbeats 2000000 in
theorem take_no {w : World} {rb : Nat} {v : Value} {T : List (Tk × Int)} {p d : Int} (h : IsRd w rb v T p d) (t : Tk) (ht : ¬ tokAt T p = t) :
    Calls Tryz.prog 209 #[.pointer (some ⟨rb, 0, none⟩), tokV t] w fun e w' => e = .returned (.int .i64 7) ∧ Below w.heap.size w w' := by
  have hA : ∀ w', Below w.heap.size w w' → Calls Tryz.prog 202 #[.pointer (some ⟨rb, 0, none⟩), .int .i64 0] w' fun e w'' => e = .returned (tokV (tokAt T p)) ∧ Below w'.heap.size w' w'' := fun w' hb => ahead0 (h.of hb)
  have HR := Lib.hid h
  have hrl := h.lt
  obtain ⟨x, hx⟩ : ∃ x, tokAt T p = x := ⟨_, rfl⟩
  rw [hx] at hA ht
  clear hx h
  obtain ⟨xk, xt, xn⟩ := x
  obtain ⟨tk, tt, tn⟩ := t
  have hX := tok_ne xk xn tk tn xt tt true (by simp [ht])
  go_enter Tryz.func209, Tryz.ntmps209
  go_wp2
  obtain ⟨W, hW⟩ : ∃ W, w.alloc (.cells #[.int .u8 (tk : Int), .string (str tt), .int .u64 (tn : Int), .int .i64 0] 148) = W := ⟨_, rfl⟩
  have hBw : Below w.heap.size w W := by rw [← hW]; exact aB (Below.refl _ _) _
  have b0 : W.cell? ⟨w.heap.size, 0, none⟩ = some (.int .u8 (tk : Int)) := by rw [← hW]; exact new_cell _ _ _ 0
  have b1 : W.cell? ⟨w.heap.size, 1, none⟩ = some (.string (str tt)) := by rw [← hW]; exact new_cell _ _ _ 1
  have b2 : W.cell? ⟨w.heap.size, 2, none⟩ = some (.int .u64 (tn : Int)) := by rw [← hW]; exact new_cell _ _ _ 2
  have b3 : W.cell? ⟨w.heap.size, 3, none⟩ = some (.int .i64 0) := by rw [← hW]; exact new_cell _ _ _ 3
  rw [hW]
  clear hW
  refine region_below (by kernel_rfl) (by kernel_rfl) ?_
  repeat (first
    | go_big_quiet_skip
    | (refine BigFrame.wpQuiet_want (by kernel_rfl) fun K hK => ?_
       apply Exists.intro
       refine ⟨fun w' hb' => ?_, ?_⟩
       · have s0 := stay hb' b0
         have s1 := stay hb' b1
         have s2 := stay hb' b2
         have s3 := stay hb' b3
         go_simp
         first
           | exact rfl
           | exact ⟨rfl, hb'⟩
           | (go_at_call 202
              exact (hA _ (below_trans' hBw (Nat.le_refl _) hb')).mono fun e w'' ⟨he, hb2⟩ => ⟨he, below_trans' hb' (Nat.le_refl _) hb2⟩)
       go_simp
       refine hK _ ?_
       clear hK K))
  refine wpQuiet_nil ?_
  intro w1 hb1
  go_wp2
  go_ret
  exact ⟨rfl, tr hBw hb1⟩
set_option maxRecDepth 100000 in
set_option maxHeartbeats 2000000 in
theorem take_yes {w : World} {rb : Nat} {v : Value} {T : List (Tk × Int)} {p d : Int} (h : IsRd w rb v T p d) (t : Tk) (ht : tokAt T p = t) (h0 : 0 ≤ p) (h1 : p < T.length) :
    Calls Tryz.prog 209 #[.pointer (some ⟨rb, 0, none⟩), tokV t] w fun e w' => e = .returned (.int .i64 0) ∧ TkP w w' rb v T (p + 1) d := by
  have hA : ∀ w', Below w.heap.size w w' → Calls Tryz.prog 202 #[.pointer (some ⟨rb, 0, none⟩), .int .i64 0] w' fun e w'' => e = .returned (tokV (tokAt T p)) ∧ Below w'.heap.size w' w'' := fun w' hb => ahead0 (h.of hb)
  have HR := Lib.hid h
  have hrl := h.lt
  obtain ⟨x, hx⟩ : ∃ x, tokAt T p = x := ⟨_, rfl⟩
  rw [hx] at hA ht
  clear hx h
  obtain ⟨xk, xt, xn⟩ := x
  obtain ⟨tk, tt, tn⟩ := t
  have hX := tok_ne xk xn tk tn xt tt false (by simp [ht])
  go_enter Tryz.func209, Tryz.ntmps209
  go_wp2
  obtain ⟨W, hW⟩ : ∃ W, w.alloc (.cells #[.int .u8 (tk : Int), .string (str tt), .int .u64 (tn : Int), .int .i64 0] 148) = W := ⟨_, rfl⟩
  have hBw : Below w.heap.size w W := by rw [← hW]; exact aB (Below.refl _ _) _
  have b0 : W.cell? ⟨w.heap.size, 0, none⟩ = some (.int .u8 (tk : Int)) := by rw [← hW]; exact new_cell _ _ _ 0
  have b1 : W.cell? ⟨w.heap.size, 1, none⟩ = some (.string (str tt)) := by rw [← hW]; exact new_cell _ _ _ 1
  have b2 : W.cell? ⟨w.heap.size, 2, none⟩ = some (.int .u64 (tn : Int)) := by rw [← hW]; exact new_cell _ _ _ 2
  have b3 : W.cell? ⟨w.heap.size, 3, none⟩ = some (.int .i64 0) := by rw [← hW]; exact new_cell _ _ _ 3
  rw [hW]
  clear hW
  refine region_below (by kernel_rfl) (by kernel_rfl) ?_
  repeat (first
    | go_big_quiet_skip
    | (refine BigFrame.wpQuiet_want (by kernel_rfl) fun K hK => ?_
       apply Exists.intro
       refine ⟨fun w' hb' => ?_, ?_⟩
       · have s0 := stay hb' b0
         have s1 := stay hb' b1
         have s2 := stay hb' b2
         have s3 := stay hb' b3
         go_simp
         first
           | exact rfl
           | exact ⟨rfl, hb'⟩
           | (go_at_call 202
              exact (hA _ (below_trans' hBw (Nat.le_refl _) hb')).mono fun e w'' ⟨he, hb2⟩ => ⟨he, below_trans' hb' (Nat.le_refl _) hb2⟩)
       go_simp
       refine hK _ ?_
       clear hK K))
  refine wpQuiet_nil ?_
  intro w1 hb1
  have hR1 := HR.out.of (tr hBw hb1)
  have c1 := hR1.c1
  have f1 := hR1.f 1
  have hl1 := hR1.lt
  have hw : IntKind.i64.wrap (p + 1) = p + 1 := by rw [IntKind.wrap_i64]; have := hR1.len; omega
  go_wp2
  go_ret
  exact ⟨rfl, hR1.setP (by omega) (by have := hR1.len; omega), (only_below (tr hBw hb1)).trans (only_one _ _ _ _)⟩
theorem sign_t (l : List UInt8) (t : Tk) (ht : t = sg l) (w : World) : Calls Tryz.prog 198 #[.string (str l)] w fun e w' => e = .returned (tokV t) ∧ Below w.heap.size w w' := by
  subst ht
  exact sign_any (str l) w
theorem od1 {S : Nat → Prop} {W : World} : Only S W W.drew := ⟨rfl, rfl, rfl, Nat.le_refl _, fun _ _ _ => rfl⟩
theorem IsRd.row_sl {w : World} {rb : Nat} {v : Value} {T : List (Tk × Int)} {p d : Int} (h : IsRd w rb v T p d) : ∃ ma c, v = .slice ma T.length c := by
  obtain ⟨ma, c, hv, _⟩ := h.row.row
  exact ⟨ma, c, hv⟩
theorem IsRd.np {w : World} {rb : Nat} {v : Value} {T : List (Tk × Int)} {p d : Int} (h : IsRd w rb v T p d) {b : Nat} {a : Option Addr} (hb : w.cell? ⟨b, 0, none⟩ = some (.pointer a)) : ¬ b = rb := by
  intro e
  subst e
  obtain ⟨ma, c, hv⟩ := h.row_sl
  have := h.c0.symm.trans hb
  rw [hv] at this
  cases this
theorem IsRd.ns {w : World} {rb : Nat} {v : Value} {T : List (Tk × Int)} {p d : Int} (h : IsRd w rb v T p d) {b : Nat} {s : ByteArray} (hb : w.cell? ⟨b, 0, none⟩ = some (.string s)) : ¬ b = rb := by
  intro e
  subst e
  obtain ⟨ma, c, hv⟩ := h.row_sl
  have := h.c0.symm.trans hb
  rw [hv] at this
  cases this
set_option maxRecDepth 100000 in
set_option maxHeartbeats 2000000 in
theorem sign1_no {w : World} {rb : Nat} {v : Value} {T : List (Tk × Int)} {p d : Int} (h : IsRd w rb v T p d) (s : List UInt8) (br bs : Nat) (eb : Option Addr) (hr : w.cell? ⟨br, 0, none⟩ = some (.pointer (some ⟨rb, 0, none⟩))) (hs : w.cell? ⟨bs, 0, none⟩ = some (.string (str s))) (ht : ¬ tokAt T p = sg s) :
    Calls Tryz.prog 210 #[.pointer eb, .pointer (some ⟨br, 0, none⟩), .pointer (some ⟨bs, 0, none⟩)] w fun e w' => e = .returned (.int .i64 7) ∧ Below w.heap.size w w' := by
  have hS := sign_t s (sg s) rfl
  have n1 := h.np hr
  have n2 := h.ns hs
  have hbr := World.block_lt_of_cell? w _ hr
  have hbs := World.block_lt_of_cell? w _ hs
  have hFi : ∀ w', Only (fun j => j = rb) w w' → w'.cell? ⟨br, 0, none⟩ = some (.pointer (some ⟨rb, 0, none⟩)) ∧ w'.cell? ⟨bs, 0, none⟩ = some (.string (str s)) ∧ br < w'.heap.size ∧ bs < w'.heap.size := fun w' ho => ⟨ho.cell n1 hr, ho.cell n2 hs, Nat.lt_of_lt_of_le hbr ho.size, Nat.lt_of_lt_of_le hbs ho.size⟩
  have hF0 : Only (fun j => j = rb) w w.drew := od1
  have hD : Below w.heap.size w w.drew := bdN (Below.refl _ w) 1
  go_enter Tryz.func210, Tryz.ntmps210
  go_wp2
  refine region_KN (fun w' => Only (fun j => j = rb) w w') (by kernel_rfl) ?_
  refine wpAnyK_take (i := 0) rfl (by kernel_rfl) (by kernel_rfl) (by kernel_rfl) (onlyN_panic _) hF0 (fun K hK => ?_)
  apply Exists.intro
  refine ⟨Or.inl ⟨by kernel_rfl, fun w' hf => ?_⟩, ?_⟩
  · obtain ⟨s1, s2, s3, s4⟩ := hFi _ hf
    go_simp
    try exact rfl
  go_simp
  refine hK _ ?_
  clear hK K
  refine wpAnyK_take (i := 1) rfl (by kernel_rfl) (by kernel_rfl) (by kernel_rfl) (onlyN_panic _) hF0 (fun K hK => ?_)
  apply Exists.intro
  refine ⟨Or.inl ⟨by kernel_rfl, fun w' hf => ?_⟩, ?_⟩
  · obtain ⟨s1, s2, s3, s4⟩ := hFi _ hf
    go_simp
    try exact rfl
  go_simp
  refine hK _ ?_
  clear hK K
  refine wpAnyK_one (k := 2) (by kernel_rfl) ?_
  refine wpOp_step rfl (fun K hK => ?_)
  go_simp
  go_at_call 198
  with_reducible refine (hS _).mono ?_
  rintro e v1 ⟨rfl, hb1⟩
  have hB1 := tr hD hb1
  have hF1 := hF0.trans (only_below hb1)
  refine hK _ _ ⟨hF1, ?_⟩
  clear hK K
  refine wpAnyK_one (k := 3) (by kernel_rfl) ?_
  refine wpOp_step rfl (fun K hK => ?_)
  go_simp
  go_at_call 209
  with_reducible refine (take_no (h.of hB1) (sg s) ht).mono ?_
  rintro e v2 ⟨rfl, hb2⟩
  have hF2 := hF1.trans (only_below hb2)
  refine hK _ _ ⟨hF2, ?_⟩
  clear hK K
  refine wpAnyK_one (k := 4) (by kernel_rfl) ?_
  refine wpOp_step rfl (fun K hK => ?_)
  go_simp
  refine hK _ _ ⟨hF2, ?_⟩
  clear hK K
  refine wpAnyK_done (by kernel_rfl) ⟨rfl, ?_⟩
  go_wp2
  go_ret
  exact ⟨rfl, tr hB1 hb2⟩
set_option maxRecDepth 100000 in
set_option maxHeartbeats 2000000 in
theorem sign1_yes {w : World} {rb : Nat} {v : Value} {T : List (Tk × Int)} {p d : Int} (h : IsRd w rb v T p d) (s : List UInt8) (br bs : Nat) (eb : Option Addr) (hr : w.cell? ⟨br, 0, none⟩ = some (.pointer (some ⟨rb, 0, none⟩))) (hs : w.cell? ⟨bs, 0, none⟩ = some (.string (str s))) (ht : tokAt T p = sg s) (h0 : 0 ≤ p) (h1 : p < T.length) :
    Calls Tryz.prog 210 #[.pointer eb, .pointer (some ⟨br, 0, none⟩), .pointer (some ⟨bs, 0, none⟩)] w fun e w' => e = .returned (.int .i64 0) ∧ TkP w w' rb v T (p + 1) d := by
  have hS := sign_t s (sg s) rfl
  have n1 := h.np hr
  have n2 := h.ns hs
  have hbr := World.block_lt_of_cell? w _ hr
  have hbs := World.block_lt_of_cell? w _ hs
  have hFi : ∀ w', Only (fun j => j = rb) w w' → w'.cell? ⟨br, 0, none⟩ = some (.pointer (some ⟨rb, 0, none⟩)) ∧ w'.cell? ⟨bs, 0, none⟩ = some (.string (str s)) ∧ br < w'.heap.size ∧ bs < w'.heap.size := fun w' ho => ⟨ho.cell n1 hr, ho.cell n2 hs, Nat.lt_of_lt_of_le hbr ho.size, Nat.lt_of_lt_of_le hbs ho.size⟩
  have hF0 : Only (fun j => j = rb) w w.drew := od1
  have hD : Below w.heap.size w w.drew := bdN (Below.refl _ w) 1
  go_enter Tryz.func210, Tryz.ntmps210
  go_wp2
  refine region_KN (fun w' => Only (fun j => j = rb) w w') (by kernel_rfl) ?_
  refine wpAnyK_take (i := 0) rfl (by kernel_rfl) (by kernel_rfl) (by kernel_rfl) (onlyN_panic _) hF0 (fun K hK => ?_)
  apply Exists.intro
  refine ⟨Or.inl ⟨by kernel_rfl, fun w' hf => ?_⟩, ?_⟩
  · obtain ⟨s1, s2, s3, s4⟩ := hFi _ hf
    go_simp
    try exact rfl
  go_simp
  refine hK _ ?_
  clear hK K
  refine wpAnyK_take (i := 1) rfl (by kernel_rfl) (by kernel_rfl) (by kernel_rfl) (onlyN_panic _) hF0 (fun K hK => ?_)
  apply Exists.intro
  refine ⟨Or.inl ⟨by kernel_rfl, fun w' hf => ?_⟩, ?_⟩
  · obtain ⟨s1, s2, s3, s4⟩ := hFi _ hf
    go_simp
    try exact rfl
  go_simp
  refine hK _ ?_
  clear hK K
  refine wpAnyK_one (k := 2) (by kernel_rfl) ?_
  refine wpOp_step rfl (fun K hK => ?_)
  go_simp
  go_at_call 198
  with_reducible refine (hS _).mono ?_
  rintro e v1 ⟨rfl, hb1⟩
  have hB1 := tr hD hb1
  have hF1 := hF0.trans (only_below hb1)
  refine hK _ _ ⟨hF1, ?_⟩
  clear hK K
  refine wpAnyK_one (k := 3) (by kernel_rfl) ?_
  refine wpOp_step rfl (fun K hK => ?_)
  go_simp
  go_at_call 209
  with_reducible refine (take_yes (h.of hB1) (sg s) ht h0 h1).mono ?_
  rintro e v2 ⟨rfl, hP⟩
  have hF2 := hF1.trans hP.only
  refine hK _ _ ⟨hF2, ?_⟩
  clear hK K
  refine wpAnyK_one (k := 4) (by kernel_rfl) ?_
  refine wpOp_step rfl (fun K hK => ?_)
  go_simp
  refine hK _ _ ⟨hF2, ?_⟩
  clear hK K
  refine wpAnyK_done (by kernel_rfl) ⟨rfl, ?_⟩
  go_wp2
  go_ret
  exact ⟨rfl, hP.rd, hF2⟩
def kindN (T : List (Tk × Int)) (p : Int) : Nat := if (tokAt T p).k = 3 then 1 else if tokAt T p = sg [35] then 4 else if tokAt T p = sg [40] then 3 else if tokAt T (p + 1) = sg [91] then 5 else 2
set_option maxRecDepth 100000 in
set_option maxHeartbeats 4000000 in
theorem kind_any {w : World} {rb : Nat} {v : Value} {T : List (Tk × Int)} {p d : Int} (h : IsRd w rb v T p d) :
    Calls Tryz.prog 191 #[.pointer (some ⟨rb, 0, none⟩)] w fun e w' => e = .returned (.int .u8 (kindN T p : Int)) ∧ Below w.heap.size w w' := by
  have hA := ahead0 h
  have hA1 : ∀ w', Below w.heap.size w w' → Calls Tryz.prog 202 #[.pointer (some ⟨rb, 0, none⟩), .int .i64 1] w' fun e w'' => e = .returned (tokV (tokAt T (p + 1))) ∧ Below w'.heap.size w' w'' := fun w' hb => ahead_any (h.of hb) 1 (.inr rfl)
  unfold kindN
  obtain ⟨x, hx⟩ : ∃ x, tokAt T p = x := ⟨_, rfl⟩
  obtain ⟨y, hy⟩ : ∃ y, tokAt T (p + 1) = y := ⟨_, rfl⟩
  rw [hx] at hA ⊢
  rw [hy] at hA1 ⊢
  clear hx hy h
  obtain ⟨a, ha⟩ : ∃ a, a = sg [35] := ⟨_, rfl⟩
  obtain ⟨b, hb⟩ : ∃ b, b = sg [40] := ⟨_, rfl⟩
  obtain ⟨c, hc⟩ : ∃ c, c = sg [91] := ⟨_, rfl⟩
  have hSa : ∀ w, Calls Tryz.prog 198 #[.string ⟨#[35]⟩] w fun e w' => e = .returned (tokV a) ∧ Below w.heap.size w w' := sign_t [35] a ha
  have hSb : ∀ w, Calls Tryz.prog 198 #[.string ⟨#[40]⟩] w fun e w' => e = .returned (tokV b) ∧ Below w.heap.size w w' := sign_t [40] b hb
  have hSc : ∀ w, Calls Tryz.prog 198 #[.string ⟨#[91]⟩] w fun e w' => e = .returned (tokV c) ∧ Below w.heap.size w w' := sign_t [91] c hc
  rw [← ha, ← hb, ← hc]
  clear ha hb hc
  obtain ⟨xk, xt, xn⟩ := x
  obtain ⟨yk, yt, yn⟩ := y
  obtain ⟨ak, at1, an⟩ := a
  obtain ⟨bk, bt, bn⟩ := b
  obtain ⟨ck, ct, cn⟩ := c

  by_cases h3 : xk = 3
  · subst h3
    rw [if_pos (by exact rfl)]
    go_enter Tryz.func191, Tryz.ntmps191
    go_wp2_with (first | (go_at_call 202; ((with_reducible refine hA.mono ?_); (rintro e w1 ⟨rfl, hb1⟩))))
    go_ret
    exact ⟨rfl, tr hb1 (aB (Below.refl _ _) _)⟩
  · rw [if_neg (by exact h3)]
    have h3' : ((xk : Int) == 3) = false := by simp only [beq_eq_false_iff_ne]; omega
    by_cases h35 : (⟨xk, xt, xn⟩ : Tk) = ⟨ak, at1, an⟩
    · have hX := tok_eq xk xn ak an xt at1 true (by simp [h35])
      rw [if_pos h35]
      clear h35
      go_enter Tryz.func191, Tryz.ntmps191
      go_wp2_with (first | (go_at_call 202; ((with_reducible refine hA.mono ?_); (rintro e w1 ⟨rfl, hb1⟩))))
      obtain ⟨W, hW⟩ : ∃ W, w1.alloc (.cells #[.int .u8 (xk : Int), .string (str xt), .int .u64 (xn : Int), .int .i64 0] 148) = W := ⟨_, rfl⟩
      have hBw : Below w1.heap.size w1 W := by rw [← hW]; exact aB (Below.refl _ _) _
      have b0 : W.cell? ⟨w1.heap.size, 0, none⟩ = some (.int .u8 (xk : Int)) := by rw [← hW]; exact new_cell _ _ _ 0
      have b1 : W.cell? ⟨w1.heap.size, 1, none⟩ = some (.string (str xt)) := by rw [← hW]; exact new_cell _ _ _ 1
      have b2 : W.cell? ⟨w1.heap.size, 2, none⟩ = some (.int .u64 (xn : Int)) := by rw [← hW]; exact new_cell _ _ _ 2
      have b3 : W.cell? ⟨w1.heap.size, 3, none⟩ = some (.int .i64 0) := by rw [← hW]; exact new_cell _ _ _ 3
      rw [hW]
      clear hW
      have hBW := tr hb1 hBw
      refine region_below (by kernel_rfl) (by kernel_rfl) ?_
      repeat (first
        | go_big_quiet_skip
        | (refine BigFrame.wpQuiet_want (by kernel_rfl) fun K hK => ?_
           apply Exists.intro
           refine ⟨fun w' hb' => ?_, ?_⟩
           · have s0 := stay hb' b0
             have s1 := stay hb' b1
             have s2 := stay hb' b2
             have s3 := stay hb' b3
             go_simp
             first
               | exact rfl
               | exact ⟨rfl, hb'⟩
               | (go_at_call 198
                  exact (hSa _).mono fun e w'' ⟨he, hb2⟩ => ⟨he, below_trans' hb' (Nat.le_refl _) hb2⟩)
           go_simp
           refine hK _ ?_
           clear hK K))
      refine wpQuiet_nil ?_
      intro w2 hb2
      go_wp2
      go_ret
      exact ⟨rfl, tr hBW hb2⟩
    · have hX := tok_eq xk xn ak an xt at1 false (by simp [h35])
      rw [if_neg h35]
      clear h35
      by_cases h40 : (⟨xk, xt, xn⟩ : Tk) = ⟨bk, bt, bn⟩
      · have hY := tok_eq xk xn bk bn xt bt true (by simp [h40])
        rw [if_pos h40]
        clear h40
        go_enter Tryz.func191, Tryz.ntmps191
        go_wp2_with (first | (go_at_call 202; ((with_reducible refine hA.mono ?_); (rintro e w1 ⟨rfl, hb1⟩))))
        obtain ⟨W, hW⟩ : ∃ W, w1.alloc (.cells #[.int .u8 (xk : Int), .string (str xt), .int .u64 (xn : Int), .int .i64 0] 148) = W := ⟨_, rfl⟩
        have hBw : Below w1.heap.size w1 W := by rw [← hW]; exact aB (Below.refl _ _) _
        have b0 : W.cell? ⟨w1.heap.size, 0, none⟩ = some (.int .u8 (xk : Int)) := by rw [← hW]; exact new_cell _ _ _ 0
        have b1 : W.cell? ⟨w1.heap.size, 1, none⟩ = some (.string (str xt)) := by rw [← hW]; exact new_cell _ _ _ 1
        have b2 : W.cell? ⟨w1.heap.size, 2, none⟩ = some (.int .u64 (xn : Int)) := by rw [← hW]; exact new_cell _ _ _ 2
        have b3 : W.cell? ⟨w1.heap.size, 3, none⟩ = some (.int .i64 0) := by rw [← hW]; exact new_cell _ _ _ 3
        rw [hW]
        clear hW
        have hBW := tr hb1 hBw
        refine region_below (by kernel_rfl) (by kernel_rfl) ?_
        repeat (first
          | go_big_quiet_skip
          | (refine BigFrame.wpQuiet_want (by kernel_rfl) fun K hK => ?_
             apply Exists.intro
             refine ⟨fun w' hb' => ?_, ?_⟩
             · have s0 := stay hb' b0
               have s1 := stay hb' b1
               have s2 := stay hb' b2
               have s3 := stay hb' b3
               go_simp
               first
                 | exact rfl
                 | exact ⟨rfl, hb'⟩
                 | (go_at_call 198
                    exact (hSa _).mono fun e w'' ⟨he, hb2⟩ => ⟨he, below_trans' hb' (Nat.le_refl _) hb2⟩)
             go_simp
             refine hK _ ?_
             clear hK K))
        refine wpQuiet_nil ?_
        intro w2 hb2
        have d0 := stay hb2 b0
        have d1 := stay hb2 b1
        have d2 := stay hb2 b2
        have d3 := stay hb2 b3
        have hB2 := tr hBW hb2
        clear hX
        go_wp2
        refine region_below (by kernel_rfl) (by kernel_rfl) ?_
        repeat (first
          | go_big_quiet_skip
          | (refine BigFrame.wpQuiet_want (by kernel_rfl) fun K hK => ?_
             apply Exists.intro
             refine ⟨fun w' hb' => ?_, ?_⟩
             · have s0 := stay hb' d0
               have s1 := stay hb' d1
               have s2 := stay hb' d2
               have s3 := stay hb' d3
               go_simp
               first
                 | exact rfl
                 | exact ⟨rfl, hb'⟩
                 | (go_at_call 198
                    exact (hSb _).mono fun e w'' ⟨he, hb2⟩ => ⟨he, below_trans' hb' (Nat.le_refl _) hb2⟩)
             go_simp
             refine hK _ ?_
             clear hK K))
        refine wpQuiet_nil ?_
        intro w3 hb3
        go_wp2
        go_ret
        exact ⟨rfl, tr hB2 hb3⟩
      · have hY := tok_eq xk xn bk bn xt bt false (by simp [h40])
        rw [if_neg h40]
        clear h40
        by_cases h91 : (⟨yk, yt, yn⟩ : Tk) = ⟨ck, ct, cn⟩
        · have hZ := tok_eq yk yn ck cn yt ct true (by simp [h91])
          rw [if_pos h91]
          clear h91
          go_enter Tryz.func191, Tryz.ntmps191
          go_wp2_with (first | (go_at_call 202; ((with_reducible refine hA.mono ?_); (rintro e w1 ⟨rfl, hb1⟩))))
          obtain ⟨W, hW⟩ : ∃ W, w1.alloc (.cells #[.int .u8 (xk : Int), .string (str xt), .int .u64 (xn : Int), .int .i64 0] 148) = W := ⟨_, rfl⟩
          have hBw : Below w1.heap.size w1 W := by rw [← hW]; exact aB (Below.refl _ _) _
          have b0 : W.cell? ⟨w1.heap.size, 0, none⟩ = some (.int .u8 (xk : Int)) := by rw [← hW]; exact new_cell _ _ _ 0
          have b1 : W.cell? ⟨w1.heap.size, 1, none⟩ = some (.string (str xt)) := by rw [← hW]; exact new_cell _ _ _ 1
          have b2 : W.cell? ⟨w1.heap.size, 2, none⟩ = some (.int .u64 (xn : Int)) := by rw [← hW]; exact new_cell _ _ _ 2
          have b3 : W.cell? ⟨w1.heap.size, 3, none⟩ = some (.int .i64 0) := by rw [← hW]; exact new_cell _ _ _ 3
          rw [hW]
          clear hW
          have hBW := tr hb1 hBw
          refine region_below (by kernel_rfl) (by kernel_rfl) ?_
          repeat (first
            | go_big_quiet_skip
            | (refine BigFrame.wpQuiet_want (by kernel_rfl) fun K hK => ?_
               apply Exists.intro
               refine ⟨fun w' hb' => ?_, ?_⟩
               · have s0 := stay hb' b0
                 have s1 := stay hb' b1
                 have s2 := stay hb' b2
                 have s3 := stay hb' b3
                 go_simp
                 first
                   | exact rfl
                   | exact ⟨rfl, hb'⟩
                   | (go_at_call 198
                      exact (hSa _).mono fun e w'' ⟨he, hb2⟩ => ⟨he, below_trans' hb' (Nat.le_refl _) hb2⟩)
               go_simp
               refine hK _ ?_
               clear hK K))
          refine wpQuiet_nil ?_
          intro w2 hb2
          have d0 := stay hb2 b0
          have d1 := stay hb2 b1
          have d2 := stay hb2 b2
          have d3 := stay hb2 b3
          have hB2 := tr hBW hb2
          clear hX
          go_wp2
          refine region_below (by kernel_rfl) (by kernel_rfl) ?_
          repeat (first
            | go_big_quiet_skip
            | (refine BigFrame.wpQuiet_want (by kernel_rfl) fun K hK => ?_
               apply Exists.intro
               refine ⟨fun w' hb' => ?_, ?_⟩
               · have s0 := stay hb' d0
                 have s1 := stay hb' d1
                 have s2 := stay hb' d2
                 have s3 := stay hb' d3
                 go_simp
                 first
                   | exact rfl
                   | exact ⟨rfl, hb'⟩
                   | (go_at_call 198
                      exact (hSb _).mono fun e w'' ⟨he, hb2⟩ => ⟨he, below_trans' hb' (Nat.le_refl _) hb2⟩)
               go_simp
               refine hK _ ?_
               clear hK K))
          refine wpQuiet_nil ?_
          intro w3 hb3
          clear hY
          have hB3 := tr hB2 hb3
          go_wp2_with (first | (go_at_call 202; ((with_reducible refine (hA1 _ hB3).mono ?_); (rintro e w4 ⟨rfl, hb4⟩))) | (go_at_call 198; ((with_reducible refine (hSc _).mono ?_); (rintro e w5 ⟨rfl, hb5⟩))))
          go_ret
          exact ⟨rfl, tr (tr hB3 hb4) hb5⟩
        · have hZ := tok_eq yk yn ck cn yt ct false (by simp [h91])
          rw [if_neg h91]
          clear h91
          go_enter Tryz.func191, Tryz.ntmps191
          go_wp2_with (first | (go_at_call 202; ((with_reducible refine hA.mono ?_); (rintro e w1 ⟨rfl, hb1⟩))))
          obtain ⟨W, hW⟩ : ∃ W, w1.alloc (.cells #[.int .u8 (xk : Int), .string (str xt), .int .u64 (xn : Int), .int .i64 0] 148) = W := ⟨_, rfl⟩
          have hBw : Below w1.heap.size w1 W := by rw [← hW]; exact aB (Below.refl _ _) _
          have b0 : W.cell? ⟨w1.heap.size, 0, none⟩ = some (.int .u8 (xk : Int)) := by rw [← hW]; exact new_cell _ _ _ 0
          have b1 : W.cell? ⟨w1.heap.size, 1, none⟩ = some (.string (str xt)) := by rw [← hW]; exact new_cell _ _ _ 1
          have b2 : W.cell? ⟨w1.heap.size, 2, none⟩ = some (.int .u64 (xn : Int)) := by rw [← hW]; exact new_cell _ _ _ 2
          have b3 : W.cell? ⟨w1.heap.size, 3, none⟩ = some (.int .i64 0) := by rw [← hW]; exact new_cell _ _ _ 3
          rw [hW]
          clear hW
          have hBW := tr hb1 hBw
          refine region_below (by kernel_rfl) (by kernel_rfl) ?_
          repeat (first
            | go_big_quiet_skip
            | (refine BigFrame.wpQuiet_want (by kernel_rfl) fun K hK => ?_
               apply Exists.intro
               refine ⟨fun w' hb' => ?_, ?_⟩
               · have s0 := stay hb' b0
                 have s1 := stay hb' b1
                 have s2 := stay hb' b2
                 have s3 := stay hb' b3
                 go_simp
                 first
                   | exact rfl
                   | exact ⟨rfl, hb'⟩
                   | (go_at_call 198
                      exact (hSa _).mono fun e w'' ⟨he, hb2⟩ => ⟨he, below_trans' hb' (Nat.le_refl _) hb2⟩)
               go_simp
               refine hK _ ?_
               clear hK K))
          refine wpQuiet_nil ?_
          intro w2 hb2
          have d0 := stay hb2 b0
          have d1 := stay hb2 b1
          have d2 := stay hb2 b2
          have d3 := stay hb2 b3
          have hB2 := tr hBW hb2
          clear hX
          go_wp2
          refine region_below (by kernel_rfl) (by kernel_rfl) ?_
          repeat (first
            | go_big_quiet_skip
            | (refine BigFrame.wpQuiet_want (by kernel_rfl) fun K hK => ?_
               apply Exists.intro
               refine ⟨fun w' hb' => ?_, ?_⟩
               · have s0 := stay hb' d0
                 have s1 := stay hb' d1
                 have s2 := stay hb' d2
                 have s3 := stay hb' d3
                 go_simp
                 first
                   | exact rfl
                   | exact ⟨rfl, hb'⟩
                   | (go_at_call 198
                      exact (hSb _).mono fun e w'' ⟨he, hb2⟩ => ⟨he, below_trans' hb' (Nat.le_refl _) hb2⟩)
               go_simp
               refine hK _ ?_
               clear hK K))
          refine wpQuiet_nil ?_
          intro w3 hb3
          clear hY
          have hB3 := tr hB2 hb3
          go_wp2_with (first | (go_at_call 202; ((with_reducible refine (hA1 _ hB3).mono ?_); (rintro e w4 ⟨rfl, hb4⟩))) | (go_at_call 198; ((with_reducible refine (hSc _).mono ?_); (rintro e w5 ⟨rfl, hb5⟩))))
          go_ret
          exact ⟨rfl, tr (tr hB3 hb4) hb5⟩
end Go.Proofs.YtfpoflddnlbpjaaGreatDoor

/- Contracts of the reader: parts, number, name, op. -/
namespace Go.Proofs.YtfpoflddnlbpjaaGreatDoor
open Go.ChangeShapes Go.WideShapes Go.ChangeAt Go.RowKit
set_option linter.unusedVariables false
def SgF (w : World) (rb : Nat) (s : List UInt8) (f : Value) : Prop := ∃ br bs, f = .func (.func 210) #[] #[.pointer (some ⟨br, 0, none⟩), .pointer (some ⟨bs, 0, none⟩)] ∧ w.cell? ⟨br, 0, none⟩ = some (.pointer (some ⟨rb, 0, none⟩)) ∧ w.cell? ⟨bs, 0, none⟩ = some (.string (str s))
theorem SgF.of {w w' : World} {rb : Nat} {s : List UInt8} {f : Value} (h : SgF w rb s f) (hb : Below w.heap.size w w') : SgF w' rb s f := by
  obtain ⟨br, bs, rfl, h1, h2⟩ := h
  exact ⟨br, bs, rfl, stay hb h1, stay hb h2⟩
theorem sign_part (rb : Nat) (s : List UInt8) (w : World) : Calls Tryz.prog 204 #[.pointer (some ⟨rb, 0, none⟩), .string (str s)] w fun e w' => (∃ f, e = .returned f ∧ SgF w' rb s f) ∧ Below w.heap.size w w' := by
  go_enter Tryz.func204, Tryz.ntmps204
  go_wp2
  go_ret
  have hn := new_cell (w.alloc (.cells #[.pointer (some ⟨rb, 0, none⟩)] 249)) #[.string (str s)] 9 0
  rw [World.size_alloc] at hn
  refine ⟨⟨_, rfl, w.heap.size, w.heap.size + 1, rfl, ?_, hn⟩, aB (aB (Below.refl _ _) _) _⟩
  exact (World.cell?_alloc_lt _ _ ⟨w.heap.size, 0, none⟩ (by simp)).trans (new_cell w _ _ 0)
abbrev bnd (f rb : Nat) : Value := .func (.func f) #[.pointer (some ⟨rb, 0, none⟩)] #[]

set_option maxRecDepth 100000 in
theorem parts_num (rb : Nat) (w : World) : Calls Tryz.prog 192 #[.pointer (some ⟨rb, 0, none⟩), .int .u8 1] w fun e w' => (∃ g, e = .returned (.slice (some ⟨g, 0, none⟩) 1 1) ∧ g < w'.heap.size ∧ (w'.cell? ⟨g, 0, none⟩ = some (bnd 203 rb))) ∧ Below w.heap.size w w' := by
  go_enter Tryz.func192, Tryz.ntmps192
  go_wp2
  go_ret
  have hn := new_cell w #[bnd 203 rb] 254
  exact ⟨⟨_, rfl, by simp, hn 0⟩, aB (Below.refl _ _) _⟩
set_option maxRecDepth 100000 in
theorem parts_var (rb : Nat) (w : World) : Calls Tryz.prog 192 #[.pointer (some ⟨rb, 0, none⟩), .int .u8 2] w fun e w' => (∃ g, e = .returned (.slice (some ⟨g, 0, none⟩) 1 1) ∧ g < w'.heap.size ∧ (w'.cell? ⟨g, 0, none⟩ = some (bnd 205 rb))) ∧ Below w.heap.size w w' := by
  go_enter Tryz.func192, Tryz.ntmps192
  go_wp2
  go_ret
  have hn := new_cell w #[bnd 205 rb] 254
  exact ⟨⟨_, rfl, by simp, hn 0⟩, aB (Below.refl _ _) _⟩
set_option maxRecDepth 100000 in
theorem parts_len (rb : Nat) (w : World) : Calls Tryz.prog 192 #[.pointer (some ⟨rb, 0, none⟩), .int .u8 4] w fun e w' => (∃ g, e = .returned (.slice (some ⟨g, 0, none⟩) 2 2) ∧ g < w'.heap.size ∧ (∃ f, w'.cell? ⟨g, 0, none⟩ = some f ∧ SgF w' rb [35] f) ∧ (w'.cell? ⟨g, 1, none⟩ = some (bnd 205 rb))) ∧ Below w.heap.size w w' := by
  have hS0 : ∀ w, Calls Tryz.prog 204 #[.pointer (some ⟨rb, 0, none⟩), .string ⟨#[35]⟩] w fun e w' => (∃ f, e = .returned f ∧ SgF w' rb [35] f) ∧ Below w.heap.size w w' := sign_part rb [35]
  go_enter Tryz.func192, Tryz.ntmps192
  go_wp2_with (first | (go_at_call 204; ((with_reducible refine (hS0 _).mono ?_); (rintro e v0 ⟨⟨f0, rfl, br0, bs0, rfl, hr0, hs0⟩, hb0⟩); have hf0 : SgF v0 rb [35] _ := ⟨br0, bs0, rfl, hr0, hs0⟩)))
  go_ret
  have hn := new_cell v0 #[.func (.func 210) #[] #[.pointer (some ⟨br0, 0, none⟩), .pointer (some ⟨bs0, 0, none⟩)], bnd 205 rb] 254
  exact ⟨⟨_, rfl, by simp, ⟨_, hn 0, SgF.of hf0 (aB (Below.refl _ _) _)⟩, hn 1⟩, aB hb0 _⟩
set_option maxRecDepth 100000 in
theorem parts_byte (rb : Nat) (w : World) : Calls Tryz.prog 192 #[.pointer (some ⟨rb, 0, none⟩), .int .u8 5] w fun e w' => (∃ g, e = .returned (.slice (some ⟨g, 0, none⟩) 4 4) ∧ g < w'.heap.size ∧ (w'.cell? ⟨g, 0, none⟩ = some (bnd 205 rb)) ∧ (∃ f, w'.cell? ⟨g, 1, none⟩ = some f ∧ SgF w' rb [91] f) ∧ (w'.cell? ⟨g, 2, none⟩ = some (bnd 206 rb)) ∧ (∃ f, w'.cell? ⟨g, 3, none⟩ = some f ∧ SgF w' rb [93] f)) ∧ Below w.heap.size w w' := by
  have hS0 : ∀ w, Calls Tryz.prog 204 #[.pointer (some ⟨rb, 0, none⟩), .string ⟨#[91]⟩] w fun e w' => (∃ f, e = .returned f ∧ SgF w' rb [91] f) ∧ Below w.heap.size w w' := sign_part rb [91]
  have hS1 : ∀ w, Calls Tryz.prog 204 #[.pointer (some ⟨rb, 0, none⟩), .string ⟨#[93]⟩] w fun e w' => (∃ f, e = .returned f ∧ SgF w' rb [93] f) ∧ Below w.heap.size w w' := sign_part rb [93]
  go_enter Tryz.func192, Tryz.ntmps192
  go_wp2_with (first | (go_at_call 204; ((with_reducible refine (hS0 _).mono ?_); (rintro e v0 ⟨⟨f0, rfl, br0, bs0, rfl, hr0, hs0⟩, hb0⟩); have hf0 : SgF v0 rb [91] _ := ⟨br0, bs0, rfl, hr0, hs0⟩)) | (go_at_call 204; ((with_reducible refine (hS1 _).mono ?_); (rintro e v1 ⟨⟨f1, rfl, br1, bs1, rfl, hr1, hs1⟩, hb1⟩); have hf1 : SgF v1 rb [93] _ := ⟨br1, bs1, rfl, hr1, hs1⟩)))
  go_ret
  have hn := new_cell v1 #[bnd 205 rb, .func (.func 210) #[] #[.pointer (some ⟨br0, 0, none⟩), .pointer (some ⟨bs0, 0, none⟩)], bnd 206 rb, .func (.func 210) #[] #[.pointer (some ⟨br1, 0, none⟩), .pointer (some ⟨bs1, 0, none⟩)]] 254
  exact ⟨⟨_, rfl, by simp, hn 0, ⟨_, hn 1, SgF.of (SgF.of hf0 hb1) (aB (Below.refl _ _) _)⟩, hn 2, ⟨_, hn 3, SgF.of hf1 (aB (Below.refl _ _) _)⟩⟩, aB (tr hb0 hb1) _⟩
set_option maxRecDepth 100000 in
theorem parts_bin (rb : Nat) (w : World) : Calls Tryz.prog 192 #[.pointer (some ⟨rb, 0, none⟩), .int .u8 3] w fun e w' => (∃ g, e = .returned (.slice (some ⟨g, 0, none⟩) 5 5) ∧ g < w'.heap.size ∧ (∃ f, w'.cell? ⟨g, 0, none⟩ = some f ∧ SgF w' rb [40] f) ∧ (w'.cell? ⟨g, 1, none⟩ = some (bnd 206 rb)) ∧ (w'.cell? ⟨g, 2, none⟩ = some (bnd 207 rb)) ∧ (w'.cell? ⟨g, 3, none⟩ = some (bnd 206 rb)) ∧ (∃ f, w'.cell? ⟨g, 4, none⟩ = some f ∧ SgF w' rb [41] f)) ∧ Below w.heap.size w w' := by
  have hS0 : ∀ w, Calls Tryz.prog 204 #[.pointer (some ⟨rb, 0, none⟩), .string ⟨#[40]⟩] w fun e w' => (∃ f, e = .returned f ∧ SgF w' rb [40] f) ∧ Below w.heap.size w w' := sign_part rb [40]
  have hS1 : ∀ w, Calls Tryz.prog 204 #[.pointer (some ⟨rb, 0, none⟩), .string ⟨#[41]⟩] w fun e w' => (∃ f, e = .returned f ∧ SgF w' rb [41] f) ∧ Below w.heap.size w w' := sign_part rb [41]
  go_enter Tryz.func192, Tryz.ntmps192
  go_wp2_with (first | (go_at_call 204; ((with_reducible refine (hS0 _).mono ?_); (rintro e v0 ⟨⟨f0, rfl, br0, bs0, rfl, hr0, hs0⟩, hb0⟩); have hf0 : SgF v0 rb [40] _ := ⟨br0, bs0, rfl, hr0, hs0⟩)) | (go_at_call 204; ((with_reducible refine (hS1 _).mono ?_); (rintro e v1 ⟨⟨f1, rfl, br1, bs1, rfl, hr1, hs1⟩, hb1⟩); have hf1 : SgF v1 rb [41] _ := ⟨br1, bs1, rfl, hr1, hs1⟩)))
  go_ret
  have hn := new_cell v1 #[.func (.func 210) #[] #[.pointer (some ⟨br0, 0, none⟩), .pointer (some ⟨bs0, 0, none⟩)], bnd 206 rb, bnd 207 rb, bnd 206 rb, .func (.func 210) #[] #[.pointer (some ⟨br1, 0, none⟩), .pointer (some ⟨bs1, 0, none⟩)]] 254
  exact ⟨⟨_, rfl, by simp, ⟨_, hn 0, SgF.of (SgF.of hf0 hb1) (aB (Below.refl _ _) _)⟩, hn 1, hn 2, hn 3, ⟨_, hn 4, SgF.of hf1 (aB (Below.refl _ _) _)⟩⟩, aB (tr hb0 hb1) _⟩
end Go.Proofs.YtfpoflddnlbpjaaGreatDoor

/- Contracts of the reader's parts: number, name, op. -/
namespace Go.Proofs.YtfpoflddnlbpjaaGreatDoor
open Go.ChangeShapes Go.WideShapes Go.ChangeAt Go.RowKit
set_option linter.unusedVariables false
theorem fld1 (k : Int) (s : ByteArray) (n z : Int) : ∀ w : World, (Instr.field 148 (.agg #[.int .u8 k, .string s, .int .u64 n, .int .i64 z]) 1).run Tryz.prog w = .ok (.string s) w := fun _ => by kernel_rfl
theorem fld2 (k : Int) (s : ByteArray) (n z : Int) : ∀ w : World, (Instr.field 148 (.agg #[.int .u8 k, .string s, .int .u64 n, .int .i64 z]) 2).run Tryz.prog w = .ok (.int .u64 n) w := fun _ => by kernel_rfl
def GB (j : Nat) : Prop := j = 3 ∨ j = 2 ∨ j = 5 ∨ j = 0 ∨ j = 6 ∨ j = 7 ∨ j = 9 ∨ j = 1
theorem var_only {S : Nat → Prop} {w w' : World} (ho : Only S w w') {n : String} {g : Nat} {cs : Array Value} (hg : Tryz.prog.globalNamed n = some g) (hn : ¬ S g) (h : w.var? Tryz.prog n = some cs) : w'.var? Tryz.prog n = some cs := by
  unfold World.var? at h ⊢
  rw [hg] at h ⊢
  simp only [Option.bind_some] at h ⊢
  have hlt : g < w.heap.size := by
    rcases Nat.lt_or_ge g w.heap.size with h1 | h1
    · exact h1
    · rw [Array.getElem?_eq_none h1] at h; simp at h
  rw [ho.block g hlt hn]
  exact h
theorem Tb.only {S : Nat → Prop} {w w' : World} (h : Tb w) (ho : Only S w w') (hn : ∀ j, GB j → ¬ S j) : Tb w' :=
  ⟨fun j hj => ho.cell (hn _ (by unfold GB; simp)) (h.words j hj), fun j hj => ho.cell (hn _ (by unfold GB; simp)) (h.signs j hj), var_only ho (g := 5) (by kernel_rfl) (hn _ (by unfold GB; simp)) h.pow, ho.cell (hn _ (by unfold GB; simp)) h.ety,
   let ⟨a, b, c⟩ := h.syn; ⟨a, b, var_only ho (g := 6) (by kernel_rfl) (hn _ (by unfold GB; simp)) c⟩, let ⟨a, b, c⟩ := h.ran; ⟨a, b, var_only ho (g := 7) (by kernel_rfl) (hn _ (by unfold GB; simp)) c⟩, fun j hj => ho.cell (hn _ (by unfold GB; simp)) (h.esg j hj), fun j hj => ho.cell (hn _ (by unfold GB; simp)) (h.kn j hj)⟩
theorem var_lt {w : World} {n : String} {g : Nat} {cs : Array Value} (hg : Tryz.prog.globalNamed n = some g) (h : w.var? Tryz.prog n = some cs) : g < w.heap.size := by
  unfold World.var? at h
  rw [hg] at h
  simp only [Option.bind_some] at h
  rcases Nat.lt_or_ge g w.heap.size with h1 | h1
  · exact h1
  · rw [Array.getElem?_eq_none h1] at h; simp at h
theorem Tb.lt {w : World} (h : Tb w) {j : Nat} (hj : GB j) : j < w.heap.size := by
  rcases hj with rfl | rfl | rfl | rfl | rfl | rfl | rfl | rfl
  · exact World.block_lt_of_cell? w _ (h.words 0 (by omega))
  · exact World.block_lt_of_cell? w _ (h.signs 0 (by omega))
  · exact var_lt (by kernel_rfl) h.pow
  · exact World.block_lt_of_cell? w _ h.ety
  · obtain ⟨a, b, c⟩ := h.syn; exact var_lt (by kernel_rfl) c
  · obtain ⟨a, b, c⟩ := h.ran; exact var_lt (by kernel_rfl) c
  · exact World.block_lt_of_cell? w _ (h.esg 0 (by omega))
  · exact World.block_lt_of_cell? w _ (h.kn 0 (by omega))
structure Bx (w : World) (eb rb : Nat) (v : Option Nat) (c0 c1 c2 c3 c4 : Value) : Prop where
  row : rowG #[c0, c1, c2, c3, c4] w eb
  n1 : ¬ eb = rb
  n2 : ¬ v = some eb
theorem Bx.e {w : World} {eb rb : Nat} {v : Option Nat} {c0 c1 c2 c3 c4 : Value} (h : Bx w eb rb v c0 c1 c2 c3 c4) : w.cell? ⟨eb, 0, none⟩ = some c0 ∧ w.cell? ⟨eb, 1, none⟩ = some c1 ∧ w.cell? ⟨eb, 2, none⟩ = some c2 ∧ w.cell? ⟨eb, 3, none⟩ = some c3 ∧ w.cell? ⟨eb, 4, none⟩ = some c4 ∧ eb < w.heap.size ∧ ∀ k, w.frozen? ⟨eb, k, none⟩ = false :=
  ⟨h.row.1 0 (by simp), h.row.1 1 (by simp), h.row.1 2 (by simp), h.row.1 3 (by simp), h.row.1 4 (by simp), h.row.2.2, h.row.2.1⟩
theorem Bx.of {w w' : World} {eb rb : Nat} {v : Option Nat} {c0 c1 c2 c3 c4 : Value} (h : Bx w eb rb v c0 c1 c2 c3 c4) (hb : Below w.heap.size w w') : Bx w' eb rb v c0 c1 c2 c3 c4 := { h with row := rowG_b h.row hb }
theorem Bx.only {w w' : World} {eb rb : Nat} {v : Option Nat} {c0 c1 c2 c3 c4 : Value} {S : Nat → Prop} (h : Bx w eb rb v c0 c1 c2 c3 c4) (ho : Only S w w') (hs : ¬ S eb) : Bx w' eb rb v c0 c1 c2 c3 c4 := { h with row := rowG_only h.row ho hs }
theorem row5_set {c0 c1 c2 c3 c4 : Value} (i : Nat) (hi : i < 5) (u : Value) {w : World} {k : Nat} (h : rowG #[c0, c1, c2, c3, c4] w k) : rowG (#[c0, c1, c2, c3, c4].set! i u) (w.setCell ⟨k, i, none⟩ u) k := by
  refine ⟨fun j hj => ?_, fun j => by rw [World.frozen?_setCell]; exact h.2.1 j, by rw [World.size_setCell]; exact h.2.2⟩
  have hj' : j < 5 := by simpa using hj
  have hc := h.1 j (by simpa using hj')
  by_cases e : j = i
  · subst e
    rw [cset_same (u := #[c0, c1, c2, c3, c4][j]) (by rw [hc]; exact Array.getElem?_eq_getElem (by simpa using hj'))]
    rw [Array.set!_eq_setIfInBounds, Array.getElem?_setIfInBounds]
    simp [hj']
  · rw [cset (u := #[c0, c1, c2, c3, c4][j]'(by simpa using hj')) (by rw [hc]; exact Array.getElem?_eq_getElem (by simpa using hj')) e]
    rw [Array.set!_eq_setIfInBounds, Array.getElem?_setIfInBounds, if_neg (fun h => e h.symm)]
    exact (Array.getElem?_eq_getElem (by simpa using hj')).symm
structure PtP (w w' : World) (eb rb : Nat) (v : Value) (T : List (Tk × Int)) (p d : Int) (c0 c1 c2 c3 c4 : Value) : Prop where
  rd : IsRd w' rb v T p d
  bx : Bx w' eb rb (ob v T) c0 c1 c2 c3 c4
  only : Only (fun j => j = rb ∨ j = eb) w w'
theorem PtP.post {w w1 w' : World} {eb rb : Nat} {v : Value} {T : List (Tk × Int)} {p d : Int} {c0 c1 c2 c3 c4 : Value} (ho : Only (fun j => j = rb ∨ j = eb) w w1) (h : Bx w1 eb rb (ob v T) c0 c1 c2 c3 c4) (k : TkP w1 w' rb v T p d) : PtP w w' eb rb v T p d c0 c1 c2 c3 c4 :=
  ⟨k.rd, h.only k.only h.n1, ho.trans (k.only.mono fun j hj => .inl hj)⟩

set_option maxRecDepth 100000 in
set_option maxHeartbeats 2000000 in
theorem number_no {w : World} {rb eb : Nat} {v : Value} {T : List (Tk × Int)} {p d : Int} {c0 c1 c2 c3 c4 : Value} (h : IsRd w rb v T p d) (hx : Bx w eb rb (ob v T) c0 c1 c2 c3 c4) (n : Nat) (s : List UInt8) (ht : tokAt T p = ⟨3, s, n⟩) (hs : ¬ s = []) :
    Calls Tryz.prog 203 #[.pointer (some ⟨rb, 0, none⟩), .pointer (some ⟨eb, 0, none⟩)] w fun e w' => e = .returned (.int .i64 7) ∧ PtP w w' eb rb v T p d c0 (.int .u64 (n : Int)) c2 c3 c4 := by
  have hA := ahead0 h
  rw [ht] at hA
  dsimp only [tokV] at hA
  have hfl := fun (k : Int) (s : ByteArray) (n z : Int) => fld2 k s n z
  have HR := Lib.hid h
  have HX := Lib.hid hx
  have HT := Lib.hid ht
  clear h hx ht
  go_enter Tryz.func203, Tryz.ntmps203
  go_wp2_with (go_at_call 202; ((with_reducible refine hA.mono ?_); (rintro e w1 ⟨rfl, hb1⟩); obtain ⟨e0, e1, e2, e3, e4, hel, hef⟩ := (HX.out.of hb1).e; have ef1 := hef 1))
  obtain ⟨W, hW⟩ : ∃ W, w1.setCell ⟨eb, 1, none⟩ (.int .u64 (n : Int)) = W := ⟨_, rfl⟩
  have hX1 : Bx W eb rb (ob v T) c0 (.int .u64 (n : Int)) c2 c3 c4 := ⟨by rw [← hW]; exact row5_set 1 (by omega) _ (HX.out.of hb1).row, HX.out.n1, HX.out.n2⟩
  have hO1 : Only (fun j => j = eb) w1 W := by rw [← hW]; exact only_one _ _ _ _
  have hR1 : IsRd W rb v T p d := (HR.out.of hb1).only hO1 (fun e => HX.out.n1 e.symm) (fun j hj e => HX.out.n2 (by rw [hj, e]))
  have hO : Only (fun j => j = rb ∨ j = eb) w W := (only_below hb1).trans (hO1.mono fun j hj => .inr hj)
  clear hef e0 e1 e2 e3 e4 ef1 hel
  rw [hW]
  clear hW
  obtain ⟨e0, e1, e2, e3, e4, hel, hef⟩ := hX1.e
  have hN := number_any n W
  have hK : ∀ w2, Below W.heap.size W w2 → Calls Tryz.prog 209 #[.pointer (some ⟨rb, 0, none⟩), .agg #[.int .u8 3, .string ⟨#[]⟩, .int .u64 (n : Int), .int .i64 0]] w2 fun e w' => e = .returned (.int .i64 7) ∧ Below w2.heap.size w2 w' := fun w2 hb => take_no (hR1.of hb) ⟨3, [], n⟩ (by rw [HT.out]; intro e; exact hs (congrArg Tk.t e))
  go_wp2_with (first | (go_at_call 196; ((with_reducible refine hN.mono ?_); (rintro e w2 ⟨rfl, hb2⟩))) | (go_at_call 209; ((with_reducible refine (hK _ hb2).mono ?_); (rintro e w3 ⟨rfl, hb3⟩))))
  go_ret
  have hB := tr hb2 hb3
  exact ⟨rfl, hR1.of hB, hX1.of hB, hO.trans (only_below hB)⟩
set_option maxRecDepth 100000 in
set_option maxHeartbeats 2000000 in
theorem number_yes {w : World} {rb eb : Nat} {v : Value} {T : List (Tk × Int)} {p d : Int} {c0 c1 c2 c3 c4 : Value} (h : IsRd w rb v T p d) (hx : Bx w eb rb (ob v T) c0 c1 c2 c3 c4) (n : Nat) (s : List UInt8) (ht : tokAt T p = ⟨3, s, n⟩) (hs : s = []) (h0 : 0 ≤ p) (h1 : p < T.length) :
    Calls Tryz.prog 203 #[.pointer (some ⟨rb, 0, none⟩), .pointer (some ⟨eb, 0, none⟩)] w fun e w' => e = .returned (.int .i64 0) ∧ PtP w w' eb rb v T (p + 1) d c0 (.int .u64 (n : Int)) c2 c3 c4 := by
  subst hs
  have hA := ahead0 h
  rw [ht] at hA
  dsimp only [tokV] at hA
  have hfl := fun (k : Int) (s : ByteArray) (n z : Int) => fld2 k s n z
  have HR := Lib.hid h
  have HX := Lib.hid hx
  have HT := Lib.hid ht
  clear h hx ht
  go_enter Tryz.func203, Tryz.ntmps203
  go_wp2_with (go_at_call 202; ((with_reducible refine hA.mono ?_); (rintro e w1 ⟨rfl, hb1⟩); obtain ⟨e0, e1, e2, e3, e4, hel, hef⟩ := (HX.out.of hb1).e; have ef1 := hef 1))
  obtain ⟨W, hW⟩ : ∃ W, w1.setCell ⟨eb, 1, none⟩ (.int .u64 (n : Int)) = W := ⟨_, rfl⟩
  have hX1 : Bx W eb rb (ob v T) c0 (.int .u64 (n : Int)) c2 c3 c4 := ⟨by rw [← hW]; exact row5_set 1 (by omega) _ (HX.out.of hb1).row, HX.out.n1, HX.out.n2⟩
  have hO1 : Only (fun j => j = eb) w1 W := by rw [← hW]; exact only_one _ _ _ _
  have hR1 : IsRd W rb v T p d := (HR.out.of hb1).only hO1 (fun e => HX.out.n1 e.symm) (fun j hj e => HX.out.n2 (by rw [hj, e]))
  have hO : Only (fun j => j = rb ∨ j = eb) w W := (only_below hb1).trans (hO1.mono fun j hj => .inr hj)
  clear hef e0 e1 e2 e3 e4 ef1 hel
  rw [hW]
  clear hW
  obtain ⟨e0, e1, e2, e3, e4, hel, hef⟩ := hX1.e
  have hN := number_any n W
  have hK : ∀ w2, Below W.heap.size W w2 → Calls Tryz.prog 209 #[.pointer (some ⟨rb, 0, none⟩), .agg #[.int .u8 3, .string ⟨#[]⟩, .int .u64 (n : Int), .int .i64 0]] w2 fun e w' => e = .returned (.int .i64 0) ∧ TkP w2 w' rb v T (p + 1) d := fun w2 hb => take_yes (hR1.of hb) ⟨3, [], n⟩ HT.out h0 h1
  go_wp2_with (first | (go_at_call 196; ((with_reducible refine hN.mono ?_); (rintro e w2 ⟨rfl, hb2⟩))) | (go_at_call 209; ((with_reducible refine (hK _ hb2).mono ?_); (rintro e w3 ⟨rfl, hP⟩))))
  go_ret
  exact ⟨rfl, PtP.post (hO.trans (only_below hb2)) (hX1.of hb2) hP⟩
set_option maxRecDepth 100000 in
set_option maxHeartbeats 2000000 in
theorem name_no {w : World} {rb eb : Nat} {v : Value} {T : List (Tk × Int)} {p d : Int} {c0 c1 c2 c3 c4 : Value} (h : IsRd w rb v T p d) (hx : Bx w eb rb (ob v T) c0 c1 c2 c3 c4) (hT : Tb w) (hG : ¬ GB eb) (t : Tk) (ht : tokAt T p = t) (hn : nameT t = false) :
    Calls Tryz.prog 205 #[.pointer (some ⟨rb, 0, none⟩), .pointer (some ⟨eb, 0, none⟩)] w fun e w' => e = .returned (.int .i64 7) ∧ PtP w w' eb rb v T p d c0 c1 (.string (str t.t)) c3 c4 := by
  have hA := ahead0 h
  rw [ht] at hA
  dsimp only [tokV] at hA
  have hfl := fld1 t.k (str t.t) t.n 0
  have HR := Lib.hid h
  have HX := Lib.hid hx
  have HT := Lib.hid ht
  clear h hx ht
  go_enter Tryz.func205, Tryz.ntmps205
  go_wp2_with (go_at_call 202; ((with_reducible refine hA.mono ?_); (rintro e w1 ⟨rfl, hb1⟩); obtain ⟨e0, e1, e2, e3, e4, hel, hef⟩ := (HX.out.of hb1).e; have ef1 := hef 2))
  obtain ⟨W, hW⟩ : ∃ W, w1.setCell ⟨eb, 2, none⟩ (.string (str t.t)) = W := ⟨_, rfl⟩
  have hX1 : Bx W eb rb (ob v T) c0 c1 (.string (str t.t)) c3 c4 := ⟨by rw [← hW]; exact row5_set 2 (by omega) _ (HX.out.of hb1).row, HX.out.n1, HX.out.n2⟩
  have hO1 : Only (fun j => j = eb) w1 W := by rw [← hW]; exact only_one _ _ _ _
  have hR1 : IsRd W rb v T p d := (HR.out.of hb1).only hO1 (fun e => HX.out.n1 e.symm) (fun j hj e => HX.out.n2 (by rw [hj, e]))
  have hO : Only (fun j => j = rb ∨ j = eb) w W := (only_below hb1).trans (hO1.mono fun j hj => .inr hj)
  have hT1 : Tb W := (hT.of hb1).only hO1 (fun j hj e => hG (by rw [← e]; exact hj))
  clear hef e0 e1 e2 e3 e4 ef1 hel
  rw [hW]
  clear hW
  obtain ⟨e0, e1, e2, e3, e4, hel, hef⟩ := hX1.e
  have hN := nmd_str t.t W hT1
  cases hb : nmdB t.t with
  | false =>
    rw [hb] at hN
    clear hb hn
    go_wp2_with (go_at_call 51; ((with_reducible refine hN.mono ?_); (rintro e w2 ⟨rfl, hb2⟩)))
    go_ret
    exact ⟨rfl, hR1.of hb2, hX1.of hb2, hO.trans (only_below hb2)⟩
  | true =>
    rw [hb] at hN
    have hK : ∀ w2, Below W.heap.size W w2 → Calls Tryz.prog 209 #[.pointer (some ⟨rb, 0, none⟩), .agg #[.int .u8 1, .string (str t.t), .int .u64 0, .int .i64 0]] w2 fun e w' => e = .returned (.int .i64 7) ∧ Below w2.heap.size w2 w' := fun w2 hb2 => take_no (hR1.of hb2) ⟨1, t.t, 0⟩ (by
      rw [HT.out]; intro e; rw [e] at hn
      have : nameT (nmT t.t) = true := by simp [nameT, nmT, hb]
      rw [show (⟨1, t.t, 0⟩ : Tk) = nmT t.t from rfl, this] at hn; cases hn)
    have hM := name_any (str t.t)
    clear hb hn
    go_wp2_with (first | (go_at_call 51; ((with_reducible refine hN.mono ?_); (rintro e w2 ⟨rfl, hb2⟩); obtain ⟨hc2, hf2⟩ := bcell hb2; have hz2 := Nat.lt_of_lt_of_le hel hb2.size)) | (go_at_call 197; ((with_reducible refine (hM _).mono ?_); (rintro e w3 ⟨rfl, hb3⟩); have hB3 := tr hb2 hb3)) | (go_at_call 209; ((with_reducible refine (hK _ hB3).mono ?_); (rintro e w4 ⟨rfl, hb4⟩))))
    go_ret
    have hB := tr hB3 hb4
    exact ⟨rfl, hR1.of hB, hX1.of hB, hO.trans (only_below hB)⟩
set_option maxRecDepth 100000 in
set_option maxHeartbeats 2000000 in
theorem name_yes {w : World} {rb eb : Nat} {v : Value} {T : List (Tk × Int)} {p d : Int} {c0 c1 c2 c3 c4 : Value} (h : IsRd w rb v T p d) (hx : Bx w eb rb (ob v T) c0 c1 c2 c3 c4) (hT : Tb w) (hG : ¬ GB eb) (t : Tk) (ht : tokAt T p = t) (hn : nameT t = true) (h0 : 0 ≤ p) (h1 : p < T.length) :
    Calls Tryz.prog 205 #[.pointer (some ⟨rb, 0, none⟩), .pointer (some ⟨eb, 0, none⟩)] w fun e w' => e = .returned (.int .i64 0) ∧ PtP w w' eb rb v T (p + 1) d c0 c1 (.string (str t.t)) c3 c4 := by
  have hA := ahead0 h
  rw [ht] at hA
  dsimp only [tokV] at hA
  have hfl := fld1 t.k (str t.t) t.n 0
  have HR := Lib.hid h
  have HX := Lib.hid hx
  have HT := Lib.hid ht
  clear h hx ht
  go_enter Tryz.func205, Tryz.ntmps205
  go_wp2_with (go_at_call 202; ((with_reducible refine hA.mono ?_); (rintro e w1 ⟨rfl, hb1⟩); obtain ⟨e0, e1, e2, e3, e4, hel, hef⟩ := (HX.out.of hb1).e; have ef1 := hef 2))
  obtain ⟨W, hW⟩ : ∃ W, w1.setCell ⟨eb, 2, none⟩ (.string (str t.t)) = W := ⟨_, rfl⟩
  have hX1 : Bx W eb rb (ob v T) c0 c1 (.string (str t.t)) c3 c4 := ⟨by rw [← hW]; exact row5_set 2 (by omega) _ (HX.out.of hb1).row, HX.out.n1, HX.out.n2⟩
  have hO1 : Only (fun j => j = eb) w1 W := by rw [← hW]; exact only_one _ _ _ _
  have hR1 : IsRd W rb v T p d := (HR.out.of hb1).only hO1 (fun e => HX.out.n1 e.symm) (fun j hj e => HX.out.n2 (by rw [hj, e]))
  have hO : Only (fun j => j = rb ∨ j = eb) w W := (only_below hb1).trans (hO1.mono fun j hj => .inr hj)
  have hT1 : Tb W := (hT.of hb1).only hO1 (fun j hj e => hG (by rw [← e]; exact hj))
  clear hef e0 e1 e2 e3 e4 ef1 hel
  rw [hW]
  clear hW
  obtain ⟨e0, e1, e2, e3, e4, hel, hef⟩ := hX1.e
  have hN := nmd_str t.t W hT1
  obtain ⟨he, hb⟩ := name_of hn
  rw [hb] at hN
  have hK : ∀ w2, Below W.heap.size W w2 → Calls Tryz.prog 209 #[.pointer (some ⟨rb, 0, none⟩), .agg #[.int .u8 1, .string (str t.t), .int .u64 0, .int .i64 0]] w2 fun e w' => e = .returned (.int .i64 0) ∧ TkP w2 w' rb v T (p + 1) d := fun w2 hb2 => take_yes (hR1.of hb2) (nmT t.t) (by rw [HT.out]; exact he) h0 h1
  have hM := name_any (str t.t)
  clear hb hn he
  go_wp2_with (first | (go_at_call 51; ((with_reducible refine hN.mono ?_); (rintro e w2 ⟨rfl, hb2⟩); obtain ⟨hc2, hf2⟩ := bcell hb2; have hz2 := Nat.lt_of_lt_of_le hel hb2.size)) | (go_at_call 197; ((with_reducible refine (hM _).mono ?_); (rintro e w3 ⟨rfl, hb3⟩); have hB3 := tr hb2 hb3)) | (go_at_call 209; ((with_reducible refine (hK _ hB3).mono ?_); (rintro e w4 ⟨rfl, hP⟩))))
  go_ret
  exact ⟨rfl, PtP.post (hO.trans (only_below hB3)) (hX1.of hB3) hP⟩
theorem opS_inj {a b : Nat} (h : opS a = opS b) (hn : opS a ≠ []) : a = b := by
  have h1 := opOf_sg a hn
  have h2 := opOf_sg b (by rw [← h]; exact hn)
  rw [h] at h1
  exact h1.symm.trans h2
set_option maxRecDepth 100000 in
set_option maxHeartbeats 4000000 in
theorem op_no {w : World} {rb : Nat} {eb : Option Addr} {v : Value} {T : List (Tk × Int)} {p d : Int} (h : IsRd w rb v T p d) (hT : Tb w) (hno : ∀ j, opS j ≠ [] → ¬ tokAt T p = sg (opS j)) :
    Calls Tryz.prog 207 #[.pointer (some ⟨rb, 0, none⟩), .pointer eb] w fun e w' => e = .returned (.int .i64 7) ∧ Below w.heap.size w w' := by
  have HN := Lib.hid hno
  clear hno
  obtain ⟨V, hVd, hV⟩ : ∃ V : Nat → ByteArray, (∀ j, V j = str (opS j)) ∧ ∀ j < 15, w.cell? ⟨9, j, none⟩ = some (.string (V j)) := ⟨fun j => str (opS j), fun _ => rfl, hT.esg⟩
  have HD := Lib.hid hVd
  clear hVd hT
  obtain ⟨cs, hl, hg, hc⟩ := tab_list V 15
  have hR0 : w.rangeAt 9 0 cs := fun j v h => by obtain ⟨h1, rfl⟩ := hc j v h; rw [Nat.zero_add]; exact hV j h1
  have hI0 : (Tryz.prog.info? 264).map (·.size) = some cs.length := by rw [hl]; kernel_rfl
  have HR0 := Lib.hid hR0
  have HI0 := Lib.hid hI0
  clear hR0 hI0
  have HG := Lib.hid hg
  clear hV hg hc hl
  have HR := Lib.hid h
  clear h
  go_enter Tryz.func207, Tryz.ntmps207
  go_wp2_with (with_reducible refine wpList_load_mid rfl _ _ rfl 9 0 rfl cs _ HR0.out Tryz.underlying264 rfl HI0.out ?_)
  go_loopw [8] (fun i wr => ∃ k : Nat, k ≤ 15 ∧ i = .int .i64 k ∧ Below w.heap.size w wr) (fun i _ => 15 - (intOf i).toNat)
  case atStart => exact ⟨0, by omega, rfl, Below.refl _ _⟩
  case round =>
    obtain ⟨k, hk, rfl, hB⟩ := hrel
    by_cases hlt : k < 15
    · have hx := fun W => run_ix 264 15 cs k (V k) W Tryz.underlying264 hlt (HG.out k hlt)
      by_cases he : opS k = []
      · have hem : (V k).toList.isEmpty = true := by rw [HD.out k, strE, he]; rfl
        clear he
        go_wp2
        go_roundw
        case rel => exact ⟨k + 1, by omega, by go_num, hB⟩
        case measure => simp [intOf]; omega
      · have hem : (V k).toList.isEmpty = false := by rw [HD.out k, strE, decide_eq_false he]
        have hS : ∀ w, Calls Tryz.prog 198 #[.string (V k)] w fun e w' => e = .returned (.agg #[.int .u8 4, .string (V k), .int .u64 0, .int .i64 0]) ∧ Below w.heap.size w w' := fun w => sign_any (V k) w
        have hK : ∀ w2, Below wr.heap.size wr w2 → Calls Tryz.prog 209 #[.pointer (some ⟨rb, 0, none⟩), .agg #[.int .u8 4, .string (V k), .int .u64 0, .int .i64 0]] w2 fun e w' => e = .returned (.int .i64 7) ∧ Below w2.heap.size w2 w' := fun w2 hb => by
          have := take_no ((HR.out.of hB).of hb) (sg (opS k)) (HN.out k he)
          unfold tokV at this
          rw [show (sg (opS k)).t = opS k from rfl, ← HD.out k] at this
          exact this
        clear he
        go_wp2_with (first | (go_at_call 198; ((with_reducible refine (hS _).mono ?_); (rintro e w2 ⟨rfl, hb2⟩))) | (go_at_call 209; ((with_reducible refine (hK _ hb2).mono ?_); (rintro e w3 ⟨rfl, hb3⟩))))
        go_roundw
        case rel => exact ⟨k + 1, by omega, by go_num, tr hB (tr hb2 hb3)⟩
        case measure => simp [intOf]; omega
    · obtain rfl : k = 15 := by omega
      go_wp2
      go_ret
      exact ⟨rfl, hB⟩
set_option maxRecDepth 100000 in
set_option maxHeartbeats 4000000 in
theorem op_yes {w : World} {rb eb : Nat} {v : Value} {T : List (Tk × Int)} {p d : Int} {c0 c1 c2 c3 c4 : Value} (h : IsRd w rb v T p d) (hx : Bx w eb rb (ob v T) c0 c1 c2 c3 c4) (hT : Tb w) (o : Nat) (ho : opS o ≠ []) (ht : tokAt T p = sg (opS o)) (h0 : 0 ≤ p) (h1 : p < T.length) :
    Calls Tryz.prog 207 #[.pointer (some ⟨rb, 0, none⟩), .pointer (some ⟨eb, 0, none⟩)] w fun e w' => e = .returned (.int .i64 0) ∧ PtP w w' eb rb v T (p + 1) d c0 c1 c2 (.int .u8 (o : Int)) c4 := by
  have ho15 : o < 15 := by
    rcases Nat.lt_or_ge o 15 with h | h
    · exact h
    · exact absurd (opS_big h) ho
  have HN : Hid (∀ k, k < o → opS k ≠ [] → ¬ tokAt T p = sg (opS k)) := Lib.hid fun k hk hk0 e => by
    rw [ht] at e
    have := opS_inj (congrArg Tk.t e : opS o = opS k) ho
    omega
  have HO := Lib.hid ho
  have HTT := Lib.hid ht
  have HX := Lib.hid hx
  clear ho ht hx
  obtain ⟨V, hVd, hV⟩ : ∃ V : Nat → ByteArray, (∀ j, V j = str (opS j)) ∧ ∀ j < 15, w.cell? ⟨9, j, none⟩ = some (.string (V j)) := ⟨fun j => str (opS j), fun _ => rfl, hT.esg⟩
  have HD := Lib.hid hVd
  clear hVd hT
  obtain ⟨cs, hl, hg, hc⟩ := tab_list V 15
  have hR0 : w.rangeAt 9 0 cs := fun j v h => by obtain ⟨h1, rfl⟩ := hc j v h; rw [Nat.zero_add]; exact hV j h1
  have hI0 : (Tryz.prog.info? 264).map (·.size) = some cs.length := by rw [hl]; kernel_rfl
  have HR0 := Lib.hid hR0
  have HI0 := Lib.hid hI0
  clear hR0 hI0
  have HG := Lib.hid hg
  clear hV hg hc hl
  have HR := Lib.hid h
  clear h
  go_enter Tryz.func207, Tryz.ntmps207
  go_wp2_with (with_reducible refine wpList_load_mid rfl _ _ rfl 9 0 rfl cs _ HR0.out Tryz.underlying264 rfl HI0.out ?_)
  go_loopw [8] (fun i wr => ∃ k : Nat, k ≤ o ∧ i = .int .i64 k ∧ Below w.heap.size w wr) (fun i _ => o + 1 - (intOf i).toNat)
  case atStart => exact ⟨0, by omega, rfl, Below.refl _ _⟩
  case round =>
    obtain ⟨k, hk, rfl, hB⟩ := hrel
    have hlt : k < 15 := by omega
    have hx := fun W => run_ix 264 15 cs k (V k) W Tryz.underlying264 hlt (HG.out k hlt)
    by_cases hko : k < o
    · by_cases he : opS k = []
      · have hem : (V k).toList.isEmpty = true := by rw [HD.out k, strE, he]; rfl
        clear he
        go_wp2
        go_roundw
        case rel => exact ⟨k + 1, by omega, by go_num, hB⟩
        case measure => simp [intOf]; omega
      · have hem : (V k).toList.isEmpty = false := by rw [HD.out k, strE, decide_eq_false he]
        have hS : ∀ w, Calls Tryz.prog 198 #[.string (V k)] w fun e w' => e = .returned (.agg #[.int .u8 4, .string (V k), .int .u64 0, .int .i64 0]) ∧ Below w.heap.size w w' := fun w => sign_any (V k) w
        have hK : ∀ w2, Below wr.heap.size wr w2 → Calls Tryz.prog 209 #[.pointer (some ⟨rb, 0, none⟩), .agg #[.int .u8 4, .string (V k), .int .u64 0, .int .i64 0]] w2 fun e w' => e = .returned (.int .i64 7) ∧ Below w2.heap.size w2 w' := fun w2 hb => by
          have := take_no ((HR.out.of hB).of hb) (sg (opS k)) (HN.out k hko he)
          unfold tokV at this
          rw [show (sg (opS k)).t = opS k from rfl, ← HD.out k] at this
          exact this
        clear he
        go_wp2_with (first | (go_at_call 198; ((with_reducible refine (hS _).mono ?_); (rintro e w2 ⟨rfl, hb2⟩))) | (go_at_call 209; ((with_reducible refine (hK _ hb2).mono ?_); (rintro e w3 ⟨rfl, hb3⟩))))
        go_roundw
        case rel => exact ⟨k + 1, by omega, by go_num, tr hB (tr hb2 hb3)⟩
        case measure => simp [intOf]; omega
    · obtain rfl : k = o := by omega
      have hem : (V k).toList.isEmpty = false := by rw [HD.out k, strE, decide_eq_false HO.out]
      have hw8 : IntKind.u8.wrap (k : Int) = (k : Int) := by rw [IntKind.wrap_u8]; omega
      have hS : ∀ w, Calls Tryz.prog 198 #[.string (V k)] w fun e w' => e = .returned (.agg #[.int .u8 4, .string (V k), .int .u64 0, .int .i64 0]) ∧ Below w.heap.size w w' := fun w => sign_any (V k) w
      have hK : ∀ w2, Below wr.heap.size wr w2 → Calls Tryz.prog 209 #[.pointer (some ⟨rb, 0, none⟩), .agg #[.int .u8 4, .string (V k), .int .u64 0, .int .i64 0]] w2 fun e w' => e = .returned (.int .i64 0) ∧ TkP w2 w' rb v T (p + 1) d := fun w2 hb => by
        have := take_yes ((HR.out.of hB).of hb) (sg (opS k)) HTT.out h0 h1
        unfold tokV at this
        rw [show (sg (opS k)).t = opS k from rfl, ← HD.out k] at this
        exact this
      go_wp2_with (first | (go_at_call 198; ((with_reducible refine (hS _).mono ?_); (rintro e w2 ⟨rfl, hb2⟩))) | (go_at_call 209; ((with_reducible refine (hK _ hb2).mono ?_); (rintro e w3 ⟨rfl, hP⟩); have hX3 := ((HX.out.of hB).of hb2).only hP.only HX.out.n1; obtain ⟨e0, e1, e2, e3, e4, hel, hef⟩ := hX3.e; have ef3 := hef 3)))
      go_ret
      have hO1 := only_one w3 eb 3 (.int .u8 (k : Int))
      exact ⟨rfl, hP.rd.only hO1 (fun e => HX.out.n1 e.symm) (fun j hj e => HX.out.n2 (by rw [hj, e])), ⟨row5_set 3 (by omega) _ hX3.row, HX.out.n1, HX.out.n2⟩, ((only_below (tr hB hb2)).trans (hP.only.mono fun j hj => .inl hj)).trans (hO1.mono fun j hj => .inr hj)⟩
end Go.Proofs.YtfpoflddnlbpjaaGreatDoor
