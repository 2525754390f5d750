/- Contracts of the reader: take, signs, kind. -/
import Derived.Test.YtnblnmehfhkfmaaGreatDoorEg
import Derived.BigQuiet
namespace Go.Proofs.YtnblnmehfhkfmaaGreatDoor
open Go.ChangeShapes Go.WideShapes Go.ChangeAt Go.RowKit
set_option linter.unusedVariables false
theorem region_below {P : Program} {id : Nat} {Q : Exit → Act → World → Prop} {a : Act} {w : World} {l : List Oper} (hm : P.follows .mixedOrders = true) (hB : Region.lexB .any l.toArray = true)
    (h : wpQuiet P l.toArray (fun w' => Below w.heap.size w w') (fun a' => ∀ w', Below w.heap.size w w' → Q .normal a' w') l a) : (Code.region id l.toArray true).wp P Q a w :=
  wp_region_quiet (C := fun w' => Below w.heap.size w w') hm hB (bdN (Below.refl _ w) 1) h
theorem strL_inj {a b : List UInt8} : (str a).toList = (str b).toList ↔ a = b := by rw [ByteArray.toList_eq, ByteArray.toList_eq, str_list, str_list]
theorem tok_ne (xk xn tk tn : Nat) (xt tt : List UInt8) (c : Bool) (hc : c = false ↔ (⟨xk, xt, xn⟩ : Tk) = ⟨tk, tt, tn⟩) (w : World) :
    (if (xk : Int) = tk then if (str xt).toList = (str tt).toList then if (xn : Int) = tn then Result.ok (Next.value (.bool false)) w else Result.ok (Next.value (.bool true)) w else Result.ok (Next.value (.bool true)) w else Result.ok (Next.value (.bool true)) w) = Result.ok (Next.value (.bool c)) w := by
  simp only [strL_inj, Int.ofNat_inj]
  by_cases h1 : xk = tk <;> by_cases h2 : xt = tt <;> by_cases h3 : xn = tn <;> simp only [h1, h2, h3, if_true, if_false] <;> (cases c <;> simp_all)
theorem tok_eq (xk xn tk tn : Nat) (xt tt : List UInt8) (c : Bool) (hc : c = true ↔ (⟨xk, xt, xn⟩ : Tk) = ⟨tk, tt, tn⟩) (w : World) :
    (if (xk : Int) = tk then if (str xt).toList = (str tt).toList then if (xn : Int) = tn then Result.ok (Next.value (.bool true)) w else Result.ok (Next.value (.bool false)) w else Result.ok (Next.value (.bool false)) w else Result.ok (Next.value (.bool false)) w) = Result.ok (Next.value (.bool c)) w := by
  simp only [strL_inj, Int.ofNat_inj]
  by_cases h1 : xk = tk <;> by_cases h2 : xt = tt <;> by_cases h3 : xn = tn <;> simp only [h1, h2, h3, if_true, if_false] <;> (cases c <;> simp_all)
theorem ahead0 {w : World} {rb : Nat} {v : Value} {T : List (Tk × Int)} {p d : Int} (h : IsRd w rb v T p d) : Calls Tryz.prog 57 #[.pointer (some ⟨rb, 0, none⟩), .int .i64 0] w fun e w' => e = .returned (tokV (tokAt T p)) ∧ Below w.heap.size w w' := by
  have := ahead_any h 0 (.inl rfl)
  rw [Int.add_zero] at this
  exact this
/-- What take leaves. -/
structure TkP (w w' : World) (rb : Nat) (v : Value) (T : List (Tk × Int)) (p d : Int) : Prop where
  rd : IsRd w' rb v T p d
  only : Only (fun j => j = rb) w w'

set_option maxRecDepth 100000 in
set_option maxHeartbeats 2000000 in
theorem take_no {w : World} {rb : Nat} {v : Value} {T : List (Tk × Int)} {p d : Int} (h : IsRd w rb v T p d) (t : Tk) (ht : ¬ tokAt T p = t) :
    Calls Tryz.prog 73 #[.pointer (some ⟨rb, 0, none⟩), tokV t] w fun e w' => e = .returned (.int .i64 7) ∧ Below w.heap.size w w' := by
  have hA : ∀ w', Below w.heap.size w w' → Calls Tryz.prog 57 #[.pointer (some ⟨rb, 0, none⟩), .int .i64 0] w' fun e w'' => e = .returned (tokV (tokAt T p)) ∧ Below w'.heap.size w' w'' := fun w' hb => ahead0 (h.of hb)
  have HR := Lib.hid h
  have hrl := h.lt
  obtain ⟨x, hx⟩ : ∃ x, tokAt T p = x := ⟨_, rfl⟩
  rw [hx] at hA ht
  clear hx h
  obtain ⟨xk, xt, xn⟩ := x
  obtain ⟨tk, tt, tn⟩ := t
  have hX := tok_ne xk xn tk tn xt tt true (by simp [ht])
  go_enter Tryz.func73, Tryz.ntmps73
  go_wp2
  obtain ⟨W, hW⟩ : ∃ W, w.alloc (.cells #[.int .u8 (tk : Int), .string (str tt), .int .u64 (tn : Int), .int .i64 0] 39) = W := ⟨_, rfl⟩
  have hBw : Below w.heap.size w W := by rw [← hW]; exact aB (Below.refl _ _) _
  have b0 : W.cell? ⟨w.heap.size, 0, none⟩ = some (.int .u8 (tk : Int)) := by rw [← hW]; exact new_cell _ _ _ 0
  have b1 : W.cell? ⟨w.heap.size, 1, none⟩ = some (.string (str tt)) := by rw [← hW]; exact new_cell _ _ _ 1
  have b2 : W.cell? ⟨w.heap.size, 2, none⟩ = some (.int .u64 (tn : Int)) := by rw [← hW]; exact new_cell _ _ _ 2
  have b3 : W.cell? ⟨w.heap.size, 3, none⟩ = some (.int .i64 0) := by rw [← hW]; exact new_cell _ _ _ 3
  rw [hW]
  clear hW
  refine region_below (by kernel_rfl) (by kernel_rfl) ?_
  repeat (first
    | go_big_quiet_skip
    | (refine BigFrame.wpQuiet_want (by kernel_rfl) fun K hK => ?_
       apply Exists.intro
       refine ⟨fun w' hb' => ?_, ?_⟩
       · have s0 := stay hb' b0
         have s1 := stay hb' b1
         have s2 := stay hb' b2
         have s3 := stay hb' b3
         go_simp
         first
           | exact rfl
           | exact ⟨rfl, hb'⟩
           | (go_at_call 57
              exact (hA _ (below_trans' hBw (Nat.le_refl _) hb')).mono fun e w'' ⟨he, hb2⟩ => ⟨he, below_trans' hb' (Nat.le_refl _) hb2⟩)
       go_simp
       refine hK _ ?_
       clear hK K))
  refine wpQuiet_nil ?_
  intro w1 hb1
  go_wp2
  go_ret
  exact ⟨rfl, tr hBw hb1⟩
set_option maxRecDepth 100000 in
set_option maxHeartbeats 2000000 in
theorem take_yes {w : World} {rb : Nat} {v : Value} {T : List (Tk × Int)} {p d : Int} (h : IsRd w rb v T p d) (t : Tk) (ht : tokAt T p = t) (h0 : 0 ≤ p) (h1 : p < T.length) :
    Calls Tryz.prog 73 #[.pointer (some ⟨rb, 0, none⟩), tokV t] w fun e w' => e = .returned (.int .i64 0) ∧ TkP w w' rb v T (p + 1) d := by
  have hA : ∀ w', Below w.heap.size w w' → Calls Tryz.prog 57 #[.pointer (some ⟨rb, 0, none⟩), .int .i64 0] w' fun e w'' => e = .returned (tokV (tokAt T p)) ∧ Below w'.heap.size w' w'' := fun w' hb => ahead0 (h.of hb)
  have HR := Lib.hid h
  have hrl := h.lt
  obtain ⟨x, hx⟩ : ∃ x, tokAt T p = x := ⟨_, rfl⟩
  rw [hx] at hA ht
  clear hx h
  obtain ⟨xk, xt, xn⟩ := x
  obtain ⟨tk, tt, tn⟩ := t
  have hX := tok_ne xk xn tk tn xt tt false (by simp [ht])
  go_enter Tryz.func73, Tryz.ntmps73
  go_wp2
  obtain ⟨W, hW⟩ : ∃ W, w.alloc (.cells #[.int .u8 (tk : Int), .string (str tt), .int .u64 (tn : Int), .int .i64 0] 39) = W := ⟨_, rfl⟩
  have hBw : Below w.heap.size w W := by rw [← hW]; exact aB (Below.refl _ _) _
  have b0 : W.cell? ⟨w.heap.size, 0, none⟩ = some (.int .u8 (tk : Int)) := by rw [← hW]; exact new_cell _ _ _ 0
  have b1 : W.cell? ⟨w.heap.size, 1, none⟩ = some (.string (str tt)) := by rw [← hW]; exact new_cell _ _ _ 1
  have b2 : W.cell? ⟨w.heap.size, 2, none⟩ = some (.int .u64 (tn : Int)) := by rw [← hW]; exact new_cell _ _ _ 2
  have b3 : W.cell? ⟨w.heap.size, 3, none⟩ = some (.int .i64 0) := by rw [← hW]; exact new_cell _ _ _ 3
  rw [hW]
  clear hW
  refine region_below (by kernel_rfl) (by kernel_rfl) ?_
  repeat (first
    | go_big_quiet_skip
    | (refine BigFrame.wpQuiet_want (by kernel_rfl) fun K hK => ?_
       apply Exists.intro
       refine ⟨fun w' hb' => ?_, ?_⟩
       · have s0 := stay hb' b0
         have s1 := stay hb' b1
         have s2 := stay hb' b2
         have s3 := stay hb' b3
         go_simp
         first
           | exact rfl
           | exact ⟨rfl, hb'⟩
           | (go_at_call 57
              exact (hA _ (below_trans' hBw (Nat.le_refl _) hb')).mono fun e w'' ⟨he, hb2⟩ => ⟨he, below_trans' hb' (Nat.le_refl _) hb2⟩)
       go_simp
       refine hK _ ?_
       clear hK K))
  refine wpQuiet_nil ?_
  intro w1 hb1
  have hR1 := HR.out.of (tr hBw hb1)
  have c1 := hR1.c1
  have f1 := hR1.f 1
  have hl1 := hR1.lt
  have hw : IntKind.i64.wrap (p + 1) = p + 1 := by rw [IntKind.wrap_i64]; have := hR1.len; omega
  go_wp2
  go_ret
  exact ⟨rfl, hR1.setP (by omega) (by have := hR1.len; omega), (only_below (tr hBw hb1)).trans (only_one _ _ _ _)⟩
theorem sign_t (l : List UInt8) (t : Tk) (ht : t = sg l) (w : World) : Calls Tryz.prog 35 #[.string (str l)] w fun e w' => e = .returned (tokV t) ∧ Below w.heap.size w w' := by
  subst ht
  exact sign_any (str l) w
theorem od1 {S : Nat → Prop} {W : World} : Only S W W.drew := ⟨rfl, rfl, rfl, Nat.le_refl _, fun _ _ _ => rfl⟩
theorem IsRd.row_sl {w : World} {rb : Nat} {v : Value} {T : List (Tk × Int)} {p d : Int} (h : IsRd w rb v T p d) : ∃ ma c, v = .slice ma T.length c := by
  obtain ⟨ma, c, hv, _⟩ := h.row.row
  exact ⟨ma, c, hv⟩
theorem IsRd.np {w : World} {rb : Nat} {v : Value} {T : List (Tk × Int)} {p d : Int} (h : IsRd w rb v T p d) {b : Nat} {a : Option Addr} (hb : w.cell? ⟨b, 0, none⟩ = some (.pointer a)) : ¬ b = rb := by
  intro e
  subst e
  obtain ⟨ma, c, hv⟩ := h.row_sl
  have := h.c0.symm.trans hb
  rw [hv] at this
  cases this
theorem IsRd.ns {w : World} {rb : Nat} {v : Value} {T : List (Tk × Int)} {p d : Int} (h : IsRd w rb v T p d) {b : Nat} {s : ByteArray} (hb : w.cell? ⟨b, 0, none⟩ = some (.string s)) : ¬ b = rb := by
  intro e
  subst e
  obtain ⟨ma, c, hv⟩ := h.row_sl
  have := h.c0.symm.trans hb
  rw [hv] at this
  cases this
set_option maxRecDepth 100000 in
set_option maxHeartbeats 2000000 in
theorem sign1_no {w : World} {rb : Nat} {v : Value} {T : List (Tk × Int)} {p d : Int} (h : IsRd w rb v T p d) (s : List UInt8) (br bs : Nat) (eb : Option Addr) (hr : w.cell? ⟨br, 0, none⟩ = some (.pointer (some ⟨rb, 0, none⟩))) (hs : w.cell? ⟨bs, 0, none⟩ = some (.string (str s))) (ht : ¬ tokAt T p = sg s) :
    Calls Tryz.prog 74 #[.pointer eb, .pointer (some ⟨br, 0, none⟩), .pointer (some ⟨bs, 0, none⟩)] w fun e w' => e = .returned (.int .i64 7) ∧ Below w.heap.size w w' := by
  have hS := sign_t s (sg s) rfl
  have n1 := h.np hr
  have n2 := h.ns hs
  have hbr := World.block_lt_of_cell? w _ hr
  have hbs := World.block_lt_of_cell? w _ hs
  have hFi : ∀ w', Only (fun j => j = rb) w w' → w'.cell? ⟨br, 0, none⟩ = some (.pointer (some ⟨rb, 0, none⟩)) ∧ w'.cell? ⟨bs, 0, none⟩ = some (.string (str s)) ∧ br < w'.heap.size ∧ bs < w'.heap.size := fun w' ho => ⟨ho.cell n1 hr, ho.cell n2 hs, Nat.lt_of_lt_of_le hbr ho.size, Nat.lt_of_lt_of_le hbs ho.size⟩
  have hF0 : Only (fun j => j = rb) w w.drew := od1
  have hD : Below w.heap.size w w.drew := bdN (Below.refl _ w) 1
  go_enter Tryz.func74, Tryz.ntmps74
  go_wp2
  refine region_KN (fun w' => Only (fun j => j = rb) w w') (by kernel_rfl) ?_
  refine wpAnyK_take (i := 0) rfl (by kernel_rfl) (by kernel_rfl) (by kernel_rfl) (onlyN_panic _) hF0 (fun K hK => ?_)
  apply Exists.intro
  refine ⟨Or.inl ⟨by kernel_rfl, fun w' hf => ?_⟩, ?_⟩
  · obtain ⟨s1, s2, s3, s4⟩ := hFi _ hf
    go_simp
    try exact rfl
  go_simp
  refine hK _ ?_
  clear hK K
  refine wpAnyK_take (i := 1) rfl (by kernel_rfl) (by kernel_rfl) (by kernel_rfl) (onlyN_panic _) hF0 (fun K hK => ?_)
  apply Exists.intro
  refine ⟨Or.inl ⟨by kernel_rfl, fun w' hf => ?_⟩, ?_⟩
  · obtain ⟨s1, s2, s3, s4⟩ := hFi _ hf
    go_simp
    try exact rfl
  go_simp
  refine hK _ ?_
  clear hK K
  refine wpAnyK_one (k := 2) (by kernel_rfl) ?_
  refine wpOp_step rfl (fun K hK => ?_)
  go_simp
  go_at_call 35
  with_reducible refine (hS _).mono ?_
  rintro e v1 ⟨rfl, hb1⟩
  have hB1 := tr hD hb1
  have hF1 := hF0.trans (only_below hb1)
  refine hK _ _ ⟨hF1, ?_⟩
  clear hK K
  refine wpAnyK_one (k := 3) (by kernel_rfl) ?_
  refine wpOp_step rfl (fun K hK => ?_)
  go_simp
  go_at_call 73
  with_reducible refine (take_no (h.of hB1) (sg s) ht).mono ?_
  rintro e v2 ⟨rfl, hb2⟩
  have hF2 := hF1.trans (only_below hb2)
  refine hK _ _ ⟨hF2, ?_⟩
  clear hK K
  refine wpAnyK_one (k := 4) (by kernel_rfl) ?_
  refine wpOp_step rfl (fun K hK => ?_)
  go_simp
  refine hK _ _ ⟨hF2, ?_⟩
  clear hK K
  refine wpAnyK_done (by kernel_rfl) ⟨rfl, ?_⟩
  go_wp2
  go_ret
  exact ⟨rfl, tr hB1 hb2⟩
set_option maxRecDepth 100000 in
set_option maxHeartbeats 2000000 in
theorem sign1_yes {w : World} {rb : Nat} {v : Value} {T : List (Tk × Int)} {p d : Int} (h : IsRd w rb v T p d) (s : List UInt8) (br bs : Nat) (eb : Option Addr) (hr : w.cell? ⟨br, 0, none⟩ = some (.pointer (some ⟨rb, 0, none⟩))) (hs : w.cell? ⟨bs, 0, none⟩ = some (.string (str s))) (ht : tokAt T p = sg s) (h0 : 0 ≤ p) (h1 : p < T.length) :
    Calls Tryz.prog 74 #[.pointer eb, .pointer (some ⟨br, 0, none⟩), .pointer (some ⟨bs, 0, none⟩)] w fun e w' => e = .returned (.int .i64 0) ∧ TkP w w' rb v T (p + 1) d := by
  have hS := sign_t s (sg s) rfl
  have n1 := h.np hr
  have n2 := h.ns hs
  have hbr := World.block_lt_of_cell? w _ hr
  have hbs := World.block_lt_of_cell? w _ hs
  have hFi : ∀ w', Only (fun j => j = rb) w w' → w'.cell? ⟨br, 0, none⟩ = some (.pointer (some ⟨rb, 0, none⟩)) ∧ w'.cell? ⟨bs, 0, none⟩ = some (.string (str s)) ∧ br < w'.heap.size ∧ bs < w'.heap.size := fun w' ho => ⟨ho.cell n1 hr, ho.cell n2 hs, Nat.lt_of_lt_of_le hbr ho.size, Nat.lt_of_lt_of_le hbs ho.size⟩
  have hF0 : Only (fun j => j = rb) w w.drew := od1
  have hD : Below w.heap.size w w.drew := bdN (Below.refl _ w) 1
  go_enter Tryz.func74, Tryz.ntmps74
  go_wp2
  refine region_KN (fun w' => Only (fun j => j = rb) w w') (by kernel_rfl) ?_
  refine wpAnyK_take (i := 0) rfl (by kernel_rfl) (by kernel_rfl) (by kernel_rfl) (onlyN_panic _) hF0 (fun K hK => ?_)
  apply Exists.intro
  refine ⟨Or.inl ⟨by kernel_rfl, fun w' hf => ?_⟩, ?_⟩
  · obtain ⟨s1, s2, s3, s4⟩ := hFi _ hf
    go_simp
    try exact rfl
  go_simp
  refine hK _ ?_
  clear hK K
  refine wpAnyK_take (i := 1) rfl (by kernel_rfl) (by kernel_rfl) (by kernel_rfl) (onlyN_panic _) hF0 (fun K hK => ?_)
  apply Exists.intro
  refine ⟨Or.inl ⟨by kernel_rfl, fun w' hf => ?_⟩, ?_⟩
  · obtain ⟨s1, s2, s3, s4⟩ := hFi _ hf
    go_simp
    try exact rfl
  go_simp
  refine hK _ ?_
  clear hK K
  refine wpAnyK_one (k := 2) (by kernel_rfl) ?_
  refine wpOp_step rfl (fun K hK => ?_)
  go_simp
  go_at_call 35
  with_reducible refine (hS _).mono ?_
  rintro e v1 ⟨rfl, hb1⟩
  have hB1 := tr hD hb1
  have hF1 := hF0.trans (only_below hb1)
  refine hK _ _ ⟨hF1, ?_⟩
  clear hK K
  refine wpAnyK_one (k := 3) (by kernel_rfl) ?_
  refine wpOp_step rfl (fun K hK => ?_)
  go_simp
  go_at_call 73
  with_reducible refine (take_yes (h.of hB1) (sg s) ht h0 h1).mono ?_
  rintro e v2 ⟨rfl, hP⟩
  have hF2 := hF1.trans hP.only
  refine hK _ _ ⟨hF2, ?_⟩
  clear hK K
  refine wpAnyK_one (k := 4) (by kernel_rfl) ?_
  refine wpOp_step rfl (fun K hK => ?_)
  go_simp
  refine hK _ _ ⟨hF2, ?_⟩
  clear hK K
  refine wpAnyK_done (by kernel_rfl) ⟨rfl, ?_⟩
  go_wp2
  go_ret
  exact ⟨rfl, hP.rd, hF2⟩
def kindN (T : List (Tk × Int)) (p : Int) : Nat := if (tokAt T p).k = 3 then 1 else if tokAt T p = sg [35] then 4 else if tokAt T p = sg [40] then 3 else if tokAt T (p + 1) = sg [91] then 5 else 2
set_option maxRecDepth 100000 in
set_option maxHeartbeats 4000000 in
theorem kind_any {w : World} {rb : Nat} {v : Value} {T : List (Tk × Int)} {p d : Int} (h : IsRd w rb v T p d) :
    Calls Tryz.prog 38 #[.pointer (some ⟨rb, 0, none⟩)] w fun e w' => e = .returned (.int .u8 (kindN T p : Int)) ∧ Below w.heap.size w w' := by
  have hA := ahead0 h
  have hA1 : ∀ w', Below w.heap.size w w' → Calls Tryz.prog 57 #[.pointer (some ⟨rb, 0, none⟩), .int .i64 1] w' fun e w'' => e = .returned (tokV (tokAt T (p + 1))) ∧ Below w'.heap.size w' w'' := fun w' hb => ahead_any (h.of hb) 1 (.inr rfl)
  unfold kindN
  obtain ⟨x, hx⟩ : ∃ x, tokAt T p = x := ⟨_, rfl⟩
  obtain ⟨y, hy⟩ : ∃ y, tokAt T (p + 1) = y := ⟨_, rfl⟩
  rw [hx] at hA ⊢
  rw [hy] at hA1 ⊢
  clear hx hy h
  obtain ⟨a, ha⟩ : ∃ a, a = sg [35] := ⟨_, rfl⟩
  obtain ⟨b, hb⟩ : ∃ b, b = sg [40] := ⟨_, rfl⟩
  obtain ⟨c, hc⟩ : ∃ c, c = sg [91] := ⟨_, rfl⟩
  have hSa : ∀ w, Calls Tryz.prog 35 #[.string ⟨#[35]⟩] w fun e w' => e = .returned (tokV a) ∧ Below w.heap.size w w' := sign_t [35] a ha
  have hSb : ∀ w, Calls Tryz.prog 35 #[.string ⟨#[40]⟩] w fun e w' => e = .returned (tokV b) ∧ Below w.heap.size w w' := sign_t [40] b hb
  have hSc : ∀ w, Calls Tryz.prog 35 #[.string ⟨#[91]⟩] w fun e w' => e = .returned (tokV c) ∧ Below w.heap.size w w' := sign_t [91] c hc
  rw [← ha, ← hb, ← hc]
  clear ha hb hc
  obtain ⟨xk, xt, xn⟩ := x
  obtain ⟨yk, yt, yn⟩ := y
  obtain ⟨ak, at1, an⟩ := a
  obtain ⟨bk, bt, bn⟩ := b
  obtain ⟨ck, ct, cn⟩ := c

  by_cases h3 : xk = 3
  · subst h3
    rw [if_pos (by exact rfl)]
    go_enter Tryz.func38, Tryz.ntmps38
    go_wp2_with (first | (go_at_call 57; ((with_reducible refine hA.mono ?_); (rintro e w1 ⟨rfl, hb1⟩))))
    go_ret
    exact ⟨rfl, tr hb1 (aB (Below.refl _ _) _)⟩
  · rw [if_neg (by exact h3)]
    have h3' : ((xk : Int) == 3) = false := by simp only [beq_eq_false_iff_ne]; omega
    by_cases h35 : (⟨xk, xt, xn⟩ : Tk) = ⟨ak, at1, an⟩
    · have hX := tok_eq xk xn ak an xt at1 true (by simp [h35])
      rw [if_pos h35]
      clear h35
      go_enter Tryz.func38, Tryz.ntmps38
      go_wp2_with (first | (go_at_call 57; ((with_reducible refine hA.mono ?_); (rintro e w1 ⟨rfl, hb1⟩))))
      obtain ⟨W, hW⟩ : ∃ W, w1.alloc (.cells #[.int .u8 (xk : Int), .string (str xt), .int .u64 (xn : Int), .int .i64 0] 39) = W := ⟨_, rfl⟩
      have hBw : Below w1.heap.size w1 W := by rw [← hW]; exact aB (Below.refl _ _) _
      have b0 : W.cell? ⟨w1.heap.size, 0, none⟩ = some (.int .u8 (xk : Int)) := by rw [← hW]; exact new_cell _ _ _ 0
      have b1 : W.cell? ⟨w1.heap.size, 1, none⟩ = some (.string (str xt)) := by rw [← hW]; exact new_cell _ _ _ 1
      have b2 : W.cell? ⟨w1.heap.size, 2, none⟩ = some (.int .u64 (xn : Int)) := by rw [← hW]; exact new_cell _ _ _ 2
      have b3 : W.cell? ⟨w1.heap.size, 3, none⟩ = some (.int .i64 0) := by rw [← hW]; exact new_cell _ _ _ 3
      rw [hW]
      clear hW
      have hBW := tr hb1 hBw
      refine region_below (by kernel_rfl) (by kernel_rfl) ?_
      repeat (first
        | go_big_quiet_skip
        | (refine BigFrame.wpQuiet_want (by kernel_rfl) fun K hK => ?_
           apply Exists.intro
           refine ⟨fun w' hb' => ?_, ?_⟩
           · have s0 := stay hb' b0
             have s1 := stay hb' b1
             have s2 := stay hb' b2
             have s3 := stay hb' b3
             go_simp
             first
               | exact rfl
               | exact ⟨rfl, hb'⟩
               | (go_at_call 35
                  exact (hSa _).mono fun e w'' ⟨he, hb2⟩ => ⟨he, below_trans' hb' (Nat.le_refl _) hb2⟩)
           go_simp
           refine hK _ ?_
           clear hK K))
      refine wpQuiet_nil ?_
      intro w2 hb2
      go_wp2
      go_ret
      exact ⟨rfl, tr hBW hb2⟩
    · have hX := tok_eq xk xn ak an xt at1 false (by simp [h35])
      rw [if_neg h35]
      clear h35
      by_cases h40 : (⟨xk, xt, xn⟩ : Tk) = ⟨bk, bt, bn⟩
      · have hY := tok_eq xk xn bk bn xt bt true (by simp [h40])
        rw [if_pos h40]
        clear h40
        go_enter Tryz.func38, Tryz.ntmps38
        go_wp2_with (first | (go_at_call 57; ((with_reducible refine hA.mono ?_); (rintro e w1 ⟨rfl, hb1⟩))))
        obtain ⟨W, hW⟩ : ∃ W, w1.alloc (.cells #[.int .u8 (xk : Int), .string (str xt), .int .u64 (xn : Int), .int .i64 0] 39) = W := ⟨_, rfl⟩
        have hBw : Below w1.heap.size w1 W := by rw [← hW]; exact aB (Below.refl _ _) _
        have b0 : W.cell? ⟨w1.heap.size, 0, none⟩ = some (.int .u8 (xk : Int)) := by rw [← hW]; exact new_cell _ _ _ 0
        have b1 : W.cell? ⟨w1.heap.size, 1, none⟩ = some (.string (str xt)) := by rw [← hW]; exact new_cell _ _ _ 1
        have b2 : W.cell? ⟨w1.heap.size, 2, none⟩ = some (.int .u64 (xn : Int)) := by rw [← hW]; exact new_cell _ _ _ 2
        have b3 : W.cell? ⟨w1.heap.size, 3, none⟩ = some (.int .i64 0) := by rw [← hW]; exact new_cell _ _ _ 3
        rw [hW]
        clear hW
        have hBW := tr hb1 hBw
        refine region_below (by kernel_rfl) (by kernel_rfl) ?_
        repeat (first
          | go_big_quiet_skip
          | (refine BigFrame.wpQuiet_want (by kernel_rfl) fun K hK => ?_
             apply Exists.intro
             refine ⟨fun w' hb' => ?_, ?_⟩
             · have s0 := stay hb' b0
               have s1 := stay hb' b1
               have s2 := stay hb' b2
               have s3 := stay hb' b3
               go_simp
               first
                 | exact rfl
                 | exact ⟨rfl, hb'⟩
                 | (go_at_call 35
                    exact (hSa _).mono fun e w'' ⟨he, hb2⟩ => ⟨he, below_trans' hb' (Nat.le_refl _) hb2⟩)
             go_simp
             refine hK _ ?_
             clear hK K))
        refine wpQuiet_nil ?_
        intro w2 hb2
        have d0 := stay hb2 b0
        have d1 := stay hb2 b1
        have d2 := stay hb2 b2
        have d3 := stay hb2 b3
        have hB2 := tr hBW hb2
        clear hX
        go_wp2
        refine region_below (by kernel_rfl) (by kernel_rfl) ?_
        repeat (first
          | go_big_quiet_skip
          | (refine BigFrame.wpQuiet_want (by kernel_rfl) fun K hK => ?_
             apply Exists.intro
             refine ⟨fun w' hb' => ?_, ?_⟩
             · have s0 := stay hb' d0
               have s1 := stay hb' d1
               have s2 := stay hb' d2
               have s3 := stay hb' d3
               go_simp
               first
                 | exact rfl
                 | exact ⟨rfl, hb'⟩
                 | (go_at_call 35
                    exact (hSb _).mono fun e w'' ⟨he, hb2⟩ => ⟨he, below_trans' hb' (Nat.le_refl _) hb2⟩)
             go_simp
             refine hK _ ?_
             clear hK K))
        refine wpQuiet_nil ?_
        intro w3 hb3
        go_wp2
        go_ret
        exact ⟨rfl, tr hB2 hb3⟩
      · have hY := tok_eq xk xn bk bn xt bt false (by simp [h40])
        rw [if_neg h40]
        clear h40
        by_cases h91 : (⟨yk, yt, yn⟩ : Tk) = ⟨ck, ct, cn⟩
        · have hZ := tok_eq yk yn ck cn yt ct true (by simp [h91])
          rw [if_pos h91]
          clear h91
          go_enter Tryz.func38, Tryz.ntmps38
          go_wp2_with (first | (go_at_call 57; ((with_reducible refine hA.mono ?_); (rintro e w1 ⟨rfl, hb1⟩))))
          obtain ⟨W, hW⟩ : ∃ W, w1.alloc (.cells #[.int .u8 (xk : Int), .string (str xt), .int .u64 (xn : Int), .int .i64 0] 39) = W := ⟨_, rfl⟩
          have hBw : Below w1.heap.size w1 W := by rw [← hW]; exact aB (Below.refl _ _) _
          have b0 : W.cell? ⟨w1.heap.size, 0, none⟩ = some (.int .u8 (xk : Int)) := by rw [← hW]; exact new_cell _ _ _ 0
          have b1 : W.cell? ⟨w1.heap.size, 1, none⟩ = some (.string (str xt)) := by rw [← hW]; exact new_cell _ _ _ 1
          have b2 : W.cell? ⟨w1.heap.size, 2, none⟩ = some (.int .u64 (xn : Int)) := by rw [← hW]; exact new_cell _ _ _ 2
          have b3 : W.cell? ⟨w1.heap.size, 3, none⟩ = some (.int .i64 0) := by rw [← hW]; exact new_cell _ _ _ 3
          rw [hW]
          clear hW
          have hBW := tr hb1 hBw
          refine region_below (by kernel_rfl) (by kernel_rfl) ?_
          repeat (first
            | go_big_quiet_skip
            | (refine BigFrame.wpQuiet_want (by kernel_rfl) fun K hK => ?_
               apply Exists.intro
               refine ⟨fun w' hb' => ?_, ?_⟩
               · have s0 := stay hb' b0
                 have s1 := stay hb' b1
                 have s2 := stay hb' b2
                 have s3 := stay hb' b3
                 go_simp
                 first
                   | exact rfl
                   | exact ⟨rfl, hb'⟩
                   | (go_at_call 35
                      exact (hSa _).mono fun e w'' ⟨he, hb2⟩ => ⟨he, below_trans' hb' (Nat.le_refl _) hb2⟩)
               go_simp
               refine hK _ ?_
               clear hK K))
          refine wpQuiet_nil ?_
          intro w2 hb2
          have d0 := stay hb2 b0
          have d1 := stay hb2 b1
          have d2 := stay hb2 b2
          have d3 := stay hb2 b3
          have hB2 := tr hBW hb2
          clear hX
          go_wp2
          refine region_below (by kernel_rfl) (by kernel_rfl) ?_
          repeat (first
            | go_big_quiet_skip
            | (refine BigFrame.wpQuiet_want (by kernel_rfl) fun K hK => ?_
               apply Exists.intro
               refine ⟨fun w' hb' => ?_, ?_⟩
               · have s0 := stay hb' d0
                 have s1 := stay hb' d1
                 have s2 := stay hb' d2
                 have s3 := stay hb' d3
                 go_simp
                 first
                   | exact rfl
                   | exact ⟨rfl, hb'⟩
                   | (go_at_call 35
                      exact (hSb _).mono fun e w'' ⟨he, hb2⟩ => ⟨he, below_trans' hb' (Nat.le_refl _) hb2⟩)
               go_simp
               refine hK _ ?_
               clear hK K))
          refine wpQuiet_nil ?_
          intro w3 hb3
          clear hY
          have hB3 := tr hB2 hb3
          go_wp2_with (first | (go_at_call 57; ((with_reducible refine (hA1 _ hB3).mono ?_); (rintro e w4 ⟨rfl, hb4⟩))) | (go_at_call 35; ((with_reducible refine (hSc _).mono ?_); (rintro e w5 ⟨rfl, hb5⟩))))
          go_ret
          exact ⟨rfl, tr (tr hB3 hb4) hb5⟩
        · have hZ := tok_eq yk yn ck cn yt ct false (by simp [h91])
          rw [if_neg h91]
          clear h91
          go_enter Tryz.func38, Tryz.ntmps38
          go_wp2_with (first | (go_at_call 57; ((with_reducible refine hA.mono ?_); (rintro e w1 ⟨rfl, hb1⟩))))
          obtain ⟨W, hW⟩ : ∃ W, w1.alloc (.cells #[.int .u8 (xk : Int), .string (str xt), .int .u64 (xn : Int), .int .i64 0] 39) = W := ⟨_, rfl⟩
          have hBw : Below w1.heap.size w1 W := by rw [← hW]; exact aB (Below.refl _ _) _
          have b0 : W.cell? ⟨w1.heap.size, 0, none⟩ = some (.int .u8 (xk : Int)) := by rw [← hW]; exact new_cell _ _ _ 0
          have b1 : W.cell? ⟨w1.heap.size, 1, none⟩ = some (.string (str xt)) := by rw [← hW]; exact new_cell _ _ _ 1
          have b2 : W.cell? ⟨w1.heap.size, 2, none⟩ = some (.int .u64 (xn : Int)) := by rw [← hW]; exact new_cell _ _ _ 2
          have b3 : W.cell? ⟨w1.heap.size, 3, none⟩ = some (.int .i64 0) := by rw [← hW]; exact new_cell _ _ _ 3
          rw [hW]
          clear hW
          have hBW := tr hb1 hBw
          refine region_below (by kernel_rfl) (by kernel_rfl) ?_
          repeat (first
            | go_big_quiet_skip
            | (refine BigFrame.wpQuiet_want (by kernel_rfl) fun K hK => ?_
               apply Exists.intro
               refine ⟨fun w' hb' => ?_, ?_⟩
               · have s0 := stay hb' b0
                 have s1 := stay hb' b1
                 have s2 := stay hb' b2
                 have s3 := stay hb' b3
                 go_simp
                 first
                   | exact rfl
                   | exact ⟨rfl, hb'⟩
                   | (go_at_call 35
                      exact (hSa _).mono fun e w'' ⟨he, hb2⟩ => ⟨he, below_trans' hb' (Nat.le_refl _) hb2⟩)
               go_simp
               refine hK _ ?_
               clear hK K))
          refine wpQuiet_nil ?_
          intro w2 hb2
          have d0 := stay hb2 b0
          have d1 := stay hb2 b1
          have d2 := stay hb2 b2
          have d3 := stay hb2 b3
          have hB2 := tr hBW hb2
          clear hX
          go_wp2
          refine region_below (by kernel_rfl) (by kernel_rfl) ?_
          repeat (first
            | go_big_quiet_skip
            | (refine BigFrame.wpQuiet_want (by kernel_rfl) fun K hK => ?_
               apply Exists.intro
               refine ⟨fun w' hb' => ?_, ?_⟩
               · have s0 := stay hb' d0
                 have s1 := stay hb' d1
                 have s2 := stay hb' d2
                 have s3 := stay hb' d3
                 go_simp
                 first
                   | exact rfl
                   | exact ⟨rfl, hb'⟩
                   | (go_at_call 35
                      exact (hSb _).mono fun e w'' ⟨he, hb2⟩ => ⟨he, below_trans' hb' (Nat.le_refl _) hb2⟩)
               go_simp
               refine hK _ ?_
               clear hK K))
          refine wpQuiet_nil ?_
          intro w3 hb3
          clear hY
          have hB3 := tr hB2 hb3
          go_wp2_with (first | (go_at_call 57; ((with_reducible refine (hA1 _ hB3).mono ?_); (rintro e w4 ⟨rfl, hb4⟩))) | (go_at_call 35; ((with_reducible refine (hSc _).mono ?_); (rintro e w5 ⟨rfl, hb5⟩))))
          go_ret
          exact ⟨rfl, tr (tr hB3 hb4) hb5⟩
end Go.Proofs.YtnblnmehfhkfmaaGreatDoor
