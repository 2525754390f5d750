/- Contract of disas.Decode: for any word. -/
import Derived.Test.YtfaacmcnefbgcaaGreatDoorJg
import Derived.Test.YtfaacmcnefbgcaaGreatDoorJf
namespace Go.Proofs.YtfaacmcnefbgcaaGreatDoor
open Go.ChangeShapes Go.WideShapes Go.ChangeAt Go.RowKit
set_option linter.unusedVariables false
attribute [local go_sem] Oper.semAt_some
theorem rdgs_any (v : Nat) (w : World) : Calls Tryz.prog 90 #[.int .u32 v] w fun e w' => e = .returned (.func (.func 114) #[] #[.pointer (some ⟨w.heap.size, 0, none⟩)]) ∧ w' = w.alloc (.cells #[.int .u32 v] 85) := by
  go_enter Tryz.func90, Tryz.ntmps90
  go_wp2
  go_ret
  exact ⟨rfl, rfl⟩
theorem rowG_blk {C : Array Value} {X Y : World} {k : Nat} (h : rowG C X k) (e : Y.heap[k]? = X.heap[k]?) (hs : k < Y.heap.size) : rowG C Y k := by
  obtain ⟨h1, h2, h3⟩ := h
  refine ⟨fun i hi => ?_, fun i => ?_, hs⟩
  · rw [← h1 i hi]; unfold World.cell?; simp only [e]
  · rw [← h2 i]; unfold World.frozen?; simp only [e]
theorem rowG_below {C : Array Value} {X Y : World} {k B : Nat} (h : rowG C X k) (hb : Below B X Y) (hk : k < B) : rowG C Y k := rowG_blk h (hb.block k hk) (Nat.lt_of_lt_of_le h.2.2 hb.size)
theorem rowG_new (C : Array Value) (t : TypeId) (w : World) : rowG C (w.alloc (.cells C t)) w.heap.size :=
  ⟨fun i _ => blkG_c (blkG_new C t (Nat.le_refl w.heap.size)) i, fun i => blkG_fr (blkG_new C t (Nat.le_refl w.heap.size)) i, blkG_lt (blkG_new C t (Nat.le_refl w.heap.size))⟩
theorem rowG_alloc {C : Array Value} {X : World} {k : Nat} (h : rowG C X k) (o : Obj) : rowG C (X.alloc o) k := rowG_blk h (Below.heap_alloc _ _ _ h.2.2) (by have := h.2.2; simp; omega)
theorem stay_cell {B : Nat} {X Y : World} {k o : Nat} {u : Value} (h : Stay B X Y) (hk : k < B) : Stay B X (Y.setCell ⟨k, o, none⟩ u) :=
  ⟨by simp only [World.size_setCell]; exact h.1, fun j hj hl => (Below.heap_setCell _ _ _ _ (by simp only; omega)).trans (h.2 j hj hl)⟩
theorem res_two {fn : Func} {p q : Tmp} (h : fn.results = #[.cell p 48, .cell q 35]) (tmps : Array Value) (w : World) (g k : Nat) (c0 c1 c2 c3 c4 d : Value) (hp : tmps.getD p undef = .pointer (some ⟨g, 0, none⟩)) (hq : tmps.getD q undef = .pointer (some ⟨k, 0, none⟩))
    (hr : rowG #[c0, c1, c2, c3, c4] w g) (hd : rowG #[d] w k) :
    (results fn tmps).run Tryz.prog w = .ok (.tuple #[.agg #[c0, c1, c2, c3, c4], d]) w := by
  have hp' : tmps[p]?.getD undef = .pointer (some ⟨g, 0, none⟩) := by simpa using hp
  have hq' : tmps[q]?.getD undef = .pointer (some ⟨k, 0, none⟩) := by simpa using hq
  have h0 : w.cell? ⟨g, 0, none⟩ = some c0 := hr.1 0 (by simp)
  have h1 : w.cell? ⟨g, 1, none⟩ = some c1 := hr.1 1 (by simp)
  have h2 : w.cell? ⟨g, 2, none⟩ = some c2 := hr.1 2 (by simp)
  have h3 : w.cell? ⟨g, 3, none⟩ = some c3 := hr.1 3 (by simp)
  have h4 : w.cell? ⟨g, 4, none⟩ = some c4 := hr.1 4 (by simp)
  have h5 : w.cell? ⟨k, 0, none⟩ = some d := hd.1 0 (by simp)
  simp [results, h, hp', hq', go_sem, h0, h1, h2, h3, h4, h5]
theorem row_other {C : Array Value} {w : World} {k j o : Nat} (u : Value) (h : rowG C w k) (hn : k ≠ j) : rowG C (w.setCell ⟨j, o, none⟩ u) k := rowG_blk h (Below.heap_setCell _ _ _ _ hn) (by simp only [World.size_setCell]; exact h.2.2)
theorem row_put {C : Array Value} {w : World} {k j : Nat} (u : Obj) (h : rowG C w k) (hn : k ≠ j) : rowG C (w.putObj j u) k := rowG_blk h (World.putObj_heap_other hn) (by simp; exact h.2.2)
theorem row_five {a0 a1 a2 a3 a4 : Value} (c0 c1 c2 c3 c4 : Value) {w : World} {k : Nat} (h : rowG #[a0, a1, a2, a3, a4] w k) :
    rowG #[c0, c1, c2, c3, c4] (((((w.setCell ⟨k, 0, none⟩ c0).setCell ⟨k, 1, none⟩ c1).setCell ⟨k, 2, none⟩ c2).setCell ⟨k, 3, none⟩ c3).setCell ⟨k, 4, none⟩ c4) k := by
  have q0 : w.cell? ⟨k, 0, none⟩ = some a0 := h.1 0 (by simp)
  have q1 : w.cell? ⟨k, 1, none⟩ = some a1 := h.1 1 (by simp)
  have q2 : w.cell? ⟨k, 2, none⟩ = some a2 := h.1 2 (by simp)
  have q3 : w.cell? ⟨k, 3, none⟩ = some a3 := h.1 3 (by simp)
  have q4 : w.cell? ⟨k, 4, none⟩ = some a4 := h.1 4 (by simp)
  refine ⟨?_, ?_, ?_⟩
  · intro i hi
    have hi' : i < 5 := hi
    have hc : i = 0 ∨ i = 1 ∨ i = 2 ∨ i = 3 ∨ i = 4 := by omega
    clear hi hi'
    rcases hc with rfl | rfl | rfl | rfl | rfl <;> go_simp
  · intro i; simp only [World.frozen?_setCell]; exact h.2.1 i
  · simp only [World.size_setCell]; exact h.2.2
theorem row_one {a : Value} (c : Value) {w : World} {k : Nat} (h : rowG #[a] w k) : rowG #[c] (w.setCell ⟨k, 0, none⟩ c) k := by
  have q0 : w.cell? ⟨k, 0, none⟩ = some a := h.1 0 (by simp)
  refine ⟨?_, ?_, ?_⟩
  · intro i hi
    have hi' : i < 1 := hi
    obtain rfl : i = 0 := by omega
    clear hi hi'
    go_simp
  · intro i; simp only [World.frozen?_setCell]; exact h.2.1 i
  · simp only [World.size_setCell]; exact h.2.2
/-- An instruction's cells. -/
def inC (x : In) : Array Value := #[.int .u8 x.op, .int .u8 x.rd, .int .u8 x.rs1, .int .u8 x.rs2, .int .i64 x.imm]
theorem dec_yes {v : Nat} {x : In} (h : isW v x) : decA v = x ∧ decE v = 0 := by unfold decA decE; rw [decN_some h]; exact ⟨rfl, rfl⟩
theorem dec_no {v : Nat} (h : decN v = none) : decA v = ⟨0, 0, 0, 0, 0⟩ ∧ decE v = 7 := by unfold decA decE; rw [h]; exact ⟨rfl, rfl⟩
set_option maxRecDepth 100000 in
set_option maxHeartbeats 4000000 in
theorem dec_any (v : Nat) (hv : v < 4294967296) (w0 : World) (hT : Tb w0) :
    Calls Tryz.prog 53 #[.int .u32 v] w0 fun e w' => e = .returned (.tuple #[.agg (inC (decA v)), .int .i64 (decE v)]) ∧ Below w0.heap.size w0 w' := by
  refine (callsIn_wide (n := 4)).1 ?_
  refine callsIn_of_wp_marks Tryz.func53 rfl trivial ?_
  simp only [Tryz.ntmps53, List.size_toArray, List.length_cons, List.length_nil, Nat.reduceAdd, Nat.reduceSub, Array.replicate_succ, Array.replicate_zero, List.push_toArray, List.append_toArray, List.nil_append, List.cons_append]
  gi_wp2_with (refine ⟨trivial, ?_⟩; gi_at_call 90; refine (callsIn_wide.2 (rdgs_any v _)).mono ?_; rintro e w' ⟨rfl, rfl⟩)
  obtain ⟨g, hg⟩ : ∃ g, w0.heap.size = g := ⟨_, rfl⟩
  obtain ⟨W, hW⟩ : ∃ W, ((((w0.alloc (.cells #[.int .u32 v] 85)).alloc (.cells #[.int .u8 0, .int .u8 0, .int .u8 0, .int .u8 0, .int .i64 0] 48)).alloc (.cells #[.int .i64 0] 35)).alloc (.cells #[.int .u32 v] 85)) = W := ⟨_, rfl⟩
  have hsz : W.heap.size = g + 4 := by rw [← hW, ← hg]; simp
  have hB0 : Below w0.heap.size w0 W := by rw [← hW]; exact ((((Below.refl _ _).alloc (Nat.le_refl _) _).alloc (by simp) _).alloc (by simp; omega) _).alloc (by simp; omega) _
  have d0 : rowG #[.int .u32 v] W g := by rw [← hW, ← hg]; exact rowG_alloc (rowG_alloc (rowG_alloc (rowG_new _ _ _) _) _) _
  have d1 : rowG #[.int .u8 0, .int .u8 0, .int .u8 0, .int .u8 0, .int .i64 0] W (g + 1) := by
    have h := rowG_alloc (rowG_alloc (rowG_new #[.int .u8 0, .int .u8 0, .int .u8 0, .int .u8 0, .int .i64 0] 48 (w0.alloc (.cells #[.int .u32 v] 85))) (.cells #[.int .i64 0] 35)) (.cells #[.int .u32 v] 85)
    rw [World.size_alloc, hg] at h; rw [← hW]; exact h
  have d2 : rowG #[.int .i64 0] W (g + 1 + 1) := by
    have h := rowG_alloc (rowG_new #[.int .i64 0] 35 ((w0.alloc (.cells #[.int .u32 v] 85)).alloc (.cells #[.int .u8 0, .int .u8 0, .int .u8 0, .int .u8 0, .int .i64 0] 48))) (.cells #[.int .u32 v] 85)
    rw [World.size_alloc, World.size_alloc, hg] at h; rw [← hW]; exact h
  have d3 : W.cell? ⟨g + 1 + 1 + 1, 0, none⟩ = some (.int .u32 v) := by
    have h := (rowG_new #[.int .u32 v] 85 (((w0.alloc (.cells #[.int .u32 v] 85)).alloc (.cells #[.int .u8 0, .int .u8 0, .int .u8 0, .int .u8 0, .int .i64 0] 48)).alloc (.cells #[.int .i64 0] 35))).1 0 (by simp)
    rw [World.size_alloc, World.size_alloc, World.size_alloc, hg] at h; rw [← hW]; exact h
  rw [hW]
  try simp only [hg]
  have hdec : ∀ k : Nat, ∃ x : In, x = fldW v (k + 1) ∧ x.wf ∨ k ≥ 34 := fun k => by
    by_cases h : k < 34
    · exact ⟨_, .inl ⟨rfl, fldF_wf _ _ _ hv (by omega)⟩⟩
    · exact ⟨⟨0, 0, 0, 0, 0⟩, .inr (by omega)⟩
  have hx : ∀ k, fldW v (k + 1) = ⟨k + 1, (fldW v 0).rd, (fldW v 0).rs1, (fldW v 0).rs2, numW (formW v) v⟩ := fun _ => rfl
  have hE : ∀ k, rdE v k = #[.agg #[.int .u8 ((k : Int) + 1), .int .u8 (fldW v 0).rd, .int .u8 (fldW v 0).rs1, .int .u8 (fldW v 0).rs2, .int .i64 (numW (formW v) v)]] := fun _ => rfl
  have hwf : ∀ k, k < 34 → (fldW v (k + 1)).wf := fun k hk => fldF_wf _ _ _ hv (by omega)
  obtain ⟨r0, hr0⟩ : ∃ r, (fldW v 0).rd = r := ⟨_, rfl⟩
  obtain ⟨r1, hr1⟩ : ∃ r, (fldW v 0).rs1 = r := ⟨_, rfl⟩
  obtain ⟨r2, hr2⟩ : ∃ r, (fldW v 0).rs2 = r := ⟨_, rfl⟩
  obtain ⟨nm, hnm⟩ : ∃ r, numW (formW v) v = r := ⟨_, rfl⟩
  rw [hr0, hr1, hr2, hnm] at hx hE
  have enY : ∀ k, k < 34 → (fldW v (k + 1)).ok = true → ∀ w, Tb w → Calls Tryz.prog 91 #[.agg #[.int .u8 ((k : Int) + 1), .int .u8 r0, .int .u8 r1, .int .u8 r2, .int .i64 nm]] w fun e w' => e = .returned (.tuple #[.int .u32 ((fldW v (k + 1)).word : Nat), .int .i64 0]) ∧ Below w.heap.size w w' := fun k hk ho w hTw => by
    have h := ency (fldW v (k + 1)) (hwf k hk) ho w hTw
    rw [hx] at h ⊢
    exact h
  have enN : ∀ k, k < 34 → (fldW v (k + 1)).ok = false → ∀ w, Tb w → Calls Tryz.prog 91 #[.agg #[.int .u8 ((k : Int) + 1), .int .u8 r0, .int .u8 r1, .int .u8 r2, .int .i64 nm]] w fun e w' => e = .returned (.tuple #[.int .u32 0, .int .i64 2]) ∧ Below w.heap.size w w' := fun k hk ho w hTw => by
    have h := encn (fldW v (k + 1)) (hwf k hk) ho w hTw
    rw [hx] at h
    exact h
  clear hr0 hr1 hr2 hnm hdec
  refine range_n (by omega) (gf := 114) (lb := #[.pointer (some ⟨g + 1 + 1 + 1, 0, none⟩)]) rfl (enters_of Tryz.func114 (by kernel_rfl) rfl)
    (rdg_seq v (g + 1 + 1 + 1) hv 3 (by omega)) (fun A hb => ⟨stay hb d3, (hT.of (below_trans' hB0 (Nat.le_refl _) hb)).2⟩) (fun _ => rfl)
    (fun k A => (∀ j, 1 ≤ j → j ≤ k → ¬ isW v (fldW v j)) ∧ Below w0.heap.size w0 A ∧ rowG #[.int .u32 v] A g ∧ rowG #[.int .u8 0, .int .u8 0, .int .u8 0, .int .u8 0, .int .i64 0] A (g + 1) ∧ rowG #[.int .i64 0] A (g + 1 + 1))
    (fun A => ∃ x, isW v x ∧ Below w0.heap.size w0 A ∧ rowG (inC x) A (g + 1) ∧ rowG #[.int .i64 0] A (g + 1 + 1))
    (fun k A A' ⟨h1, h2, h3, h4, h5⟩ hb => ⟨h1, h2.trans (hb.mono (by omega)), rowG_below h3 hb (by omega), rowG_below h4 hb (by omega), rowG_below h5 hb (by omega)⟩)
    (fun A A' ⟨x, h1, h2, h3, h4⟩ hb => ⟨x, h1, h2.trans (hb.mono (by omega)), rowG_below h3 hb (by omega), rowG_below h4 hb (by omega)⟩)
    ⟨fun j h1 h2 => by omega, hB0, d0, d1, d2⟩
    (fun k a' A => ∃ Bx, W.heap.size + 2 ≤ Bx ∧ rowG #[.int .u8 ((k : Int) + 1), .int .u8 r0, .int .u8 r1, .int .u8 r2, .int .i64 nm] A Bx ∧ a' = ⟨#[.int .u32 v, .pointer (some ⟨g, 0, none⟩), .pointer (some ⟨g + 1, 0, none⟩), .pointer (some ⟨g + 1 + 1, 0, none⟩), .pointer (some ⟨Bx, 0, none⟩), undef, undef, .int .u32 v, .func (.func 114) #[] #[.pointer (some ⟨g + 1 + 1 + 1, 0, none⟩)], .agg #[.int .u8 ((k : Int) + 1), .int .u8 r0, .int .u8 r1, .int .u8 r2, .int .i64 nm], undef, undef, undef, undef, undef, undef, undef, undef, undef, undef, undef, undef, undef, undef], []⟩)
    (fun k a' A A' ⟨Bx, h1, h2, h3⟩ hs => ⟨Bx, h1, rowG_blk h2 (hs Bx h1) (by
      have e := hs Bx h1
      have := h2.2.2
      rw [Array.getElem?_eq_getElem this] at e
      exact (Array.getElem?_eq_some_iff.1 e).1), h3⟩)
    ?assign ?body ?done ?stop
  case assign =>
    intro l k A K hs hK
    rw [hE]
    gi_wp2
    exact hK _ _ ((Below.refl _ _).alloc (Nat.le_refl _) _) ⟨A.heap.size, hs, rowG_new _ _ _, rfl⟩
  case body =>
    rintro l k a' A hs ⟨h1, h2, h3, h4, h5⟩ ⟨Bx, hBx, hr, rfl⟩ hk
    have hTA : Tb A := hT.of h2
    have q0 : A.cell? ⟨g, 0, none⟩ = some (.int .u32 v) := h3.1 0 (by simp)
    have c_0 : A.cell? ⟨Bx, 0, none⟩ = some (.int .u8 ((k : Int) + 1)) := hr.1 0 (by simp)
    have c_1 : A.cell? ⟨Bx, 1, none⟩ = some (.int .u8 r0) := hr.1 1 (by simp)
    have c_2 : A.cell? ⟨Bx, 2, none⟩ = some (.int .u8 r1) := hr.1 2 (by simp)
    have c_3 : A.cell? ⟨Bx, 3, none⟩ = some (.int .u8 r2) := hr.1 3 (by simp)
    have c_4 : A.cell? ⟨Bx, 4, none⟩ = some (.int .i64 nm) := hr.1 4 (by simp)
    by_cases ho : (fldW v (k + 1)).ok = true
    · have hc := enY k hk ho
      by_cases hw : (fldW v (k + 1)).word = v
      · rw [hw] at hc
        have hw' : isW v (fldW v (k + 1)) := ⟨ho, hw⟩
        clear enY enN
        gi_wp2_with (refine ⟨trivial, ?_⟩; gi_at_call 91; refine (CallsIn.inRound l (callsIn_wide.2 (hc _ hTA))).mono ?_; rintro e w1 ⟨rfl, hb1⟩; have q0' := stay hb1 q0; have hr' := rowG_below hr hb1 hr.2.2; have h4' := rowG_below h4 hb1 h4.2.2; have h5' := rowG_below h5 hb1 h5.2.2; have c_0' : w1.cell? ⟨Bx, 0, none⟩ = some (.int .u8 ((k : Int) + 1)) := hr'.1 0 (by simp); have c_1' : w1.cell? ⟨Bx, 1, none⟩ = some (.int .u8 r0) := hr'.1 1 (by simp); have c_2' : w1.cell? ⟨Bx, 2, none⟩ = some (.int .u8 r1) := hr'.1 2 (by simp); have c_3' : w1.cell? ⟨Bx, 3, none⟩ = some (.int .u8 r2) := hr'.1 3 (by simp); have c_4' : w1.cell? ⟨Bx, 4, none⟩ = some (.int .i64 nm) := hr'.1 4 (by simp); have y_0 : w1.cell? ⟨g + 1, 0, none⟩ = some (.int .u8 0) := h4'.1 0 (by simp); have y_1 : w1.cell? ⟨g + 1, 1, none⟩ = some (.int .u8 0) := h4'.1 1 (by simp); have y_2 : w1.cell? ⟨g + 1, 2, none⟩ = some (.int .u8 0) := h4'.1 2 (by simp); have y_3 : w1.cell? ⟨g + 1, 3, none⟩ = some (.int .u8 0) := h4'.1 3 (by simp); have y_4 : w1.cell? ⟨g + 1, 4, none⟩ = some (.int .i64 0) := h4'.1 4 (by simp); have zy_0 := h4'.2.1 0; have zy_1 := h4'.2.1 1; have zy_2 := h4'.2.1 2; have zy_3 := h4'.2.1 3; have zy_4 := h4'.2.1 4; have e_0 : w1.cell? ⟨g + 1 + 1, 0, none⟩ = some (.int .i64 0) := h5'.1 0 (by simp); have ze_0 := h5'.2.1 0)
        have h2' := below_trans' h2 (Nat.le_refl _) hb1
        refine ⟨?_, fldW v (k + 1), hw', ?_, ?_, ?_⟩
        · repeat (first | (with_reducible exact stay_of_below hb1) | (with_reducible refine stay_cell ?_ (by omega)))
        · repeat (first | (with_reducible exact h2') | (with_reducible refine sBelow ?_ (by omega)))
        · rw [hx]
          exact row_other _ (row_five _ _ _ _ _ h4') (by omega)
        · refine row_one (a := .int .i64 0) _ ?_
          repeat (first | (with_reducible exact h5') | (with_reducible refine row_other _ ?_ (by omega)))
      · have hn : ¬ isW v (fldW v (k + 1)) := fun h => hw h.2
        have hne : ((((fldW v (k + 1)).word : Nat) : Int) == (v : Int)) = false := by simp only [beq_eq_false_iff_ne]; omega
        generalize (fldW v (k + 1)).word = wd at *
        gi_wp2_with (refine ⟨trivial, ?_⟩; gi_at_call 91; refine (CallsIn.inRound l (callsIn_wide.2 (hc _ hTA))).mono ?_; rintro e w1 ⟨rfl, hb1⟩; have q0' := stay hb1 q0)
        refine ⟨stay_of_below hb1, ?_, below_trans' h2 (Nat.le_refl _) hb1, rowG_below h3 hb1 h3.2.2, rowG_below h4 hb1 h4.2.2, rowG_below h5 hb1 h5.2.2⟩
        intro j hj1 hj2
        rcases Nat.lt_or_ge k j with hkj | hkj
        · obtain rfl : j = k + 1 := by omega
          exact hn
        · exact h1 j hj1 hkj
    · have hn : ¬ isW v (fldW v (k + 1)) := fun h => ho h.1
      have hc := enN k hk (by simpa using ho)
      gi_wp2_with (refine ⟨trivial, ?_⟩; gi_at_call 91; refine (CallsIn.inRound l (callsIn_wide.2 (hc _ hTA))).mono ?_; rintro e w1 ⟨rfl, hb1⟩)
      refine ⟨stay_of_below hb1, ?_, below_trans' h2 (Nat.le_refl _) hb1, rowG_below h3 hb1 h3.2.2, rowG_below h4 hb1 h4.2.2, rowG_below h5 hb1 h5.2.2⟩
      intro j hj1 hj2
      rcases Nat.lt_or_ge k j with hkj | hkj
      · obtain rfl : j = k + 1 := by omega
        exact hn
      · exact h1 j hj1 hkj
  case done =>
    rintro D A hD ⟨h1, h2, h3, h4, h5⟩ hK
    have y_0 : A.cell? ⟨g + 1, 0, none⟩ = some (.int .u8 0) := h4.1 0 (by simp)
    have zy_0 := h4.2.1 0
    have y_1 : A.cell? ⟨g + 1, 1, none⟩ = some (.int .u8 0) := h4.1 1 (by simp)
    have zy_1 := h4.2.1 1
    have y_2 : A.cell? ⟨g + 1, 2, none⟩ = some (.int .u8 0) := h4.1 2 (by simp)
    have zy_2 := h4.2.1 2
    have y_3 : A.cell? ⟨g + 1, 3, none⟩ = some (.int .u8 0) := h4.1 3 (by simp)
    have zy_3 := h4.2.1 3
    have y_4 : A.cell? ⟨g + 1, 4, none⟩ = some (.int .i64 0) := h4.1 4 (by simp)
    have zy_4 := h4.2.1 4
    have e_0 : A.cell? ⟨g + 1 + 1, 0, none⟩ = some (.int .i64 0) := h5.1 0 (by simp)
    have ze_0 := h5.2.1 0
    gi_wp2
    have hDA : D < A.heap.size := (Array.getElem?_eq_some_iff.1 hK).1
    obtain ⟨Y, hY⟩ : ∃ Y, ((((((A.setCell ⟨g + 1, 0, none⟩ (.int .u8 0)).setCell ⟨g + 1, 1, none⟩ (.int .u8 0)).setCell ⟨g + 1, 2, none⟩ (.int .u8 0)).setCell ⟨g + 1, 3, none⟩ (.int .u8 0)).setCell ⟨g + 1, 4, none⟩ (.int .i64 0)).setCell ⟨g + 1 + 1, 0, none⟩ (.int .i64 7)) = Y := ⟨_, rfl⟩
    have s1 : Stay W.heap.size A Y := by
      rw [← hY]; repeat (first | (with_reducible exact Stay.refl _ _) | (with_reducible refine stay_cell ?_ (by omega)))
    have s2 : Below w0.heap.size w0 Y := by
      rw [← hY]; repeat (first | (with_reducible exact h2) | (with_reducible refine sBelow ?_ (by omega)))
    have s3 : rowG #[.int .u8 0, .int .u8 0, .int .u8 0, .int .u8 0, .int .i64 0] Y (g + 1) := by
      rw [← hY]; exact row_other _ (row_five _ _ _ _ _ h4) (by omega)
    have s4 : rowG #[.int .i64 7] Y (g + 1 + 1) := by
      rw [← hY]; refine row_one (a := .int .i64 0) _ ?_
      repeat (first | (with_reducible exact h5) | (with_reducible refine row_other _ ?_ (by omega)))
    rw [hY]
    obtain ⟨eA, eE⟩ := dec_no (decN_none (fun j a b => h1 j a b))
    rw [eA, eE]
    refine ⟨by simp, .inl ⟨_, _, rfl, run_takeDeferred ((s1.2 D hD hDA).trans hK), ?_⟩⟩
    exact ⟨_, res_two rfl _ _ (g + 1) (g + 1 + 1) _ _ _ _ _ _ rfl rfl (row_put _ s3 (by omega)) (row_put _ s4 (by omega)), rfl, s2.trans (below_put _ (by omega))⟩
  case stop =>
    rintro D A hD ⟨x, h1, h2, h3, h4⟩ hK
    gi_wp2
    obtain ⟨eA, eE⟩ := dec_yes h1
    rw [eA, eE]
    refine ⟨by simp, .inl ⟨_, _, rfl, run_takeDeferred hK, ?_⟩⟩
    exact ⟨_, res_two rfl _ _ (g + 1) (g + 1 + 1) _ _ _ _ _ _ rfl rfl (row_put _ h3 (by omega)) (row_put _ h4 (by omega)), rfl, h2.trans (below_put _ (by omega))⟩
end Go.Proofs.YtfaacmcnefbgcaaGreatDoor
