/- Contract of Mem.find: the piece of the one region that holds the stretch, if its kind may be; else ErrFault. -/
import Derived.Test.YtfaacmcnefbgcaaGreatDoorQe
import Derived.Test.YtfaacmcnefbgcaaGreatDoorQf
namespace Go.Proofs.YtfaacmcnefbgcaaGreatDoor.m4
open Go.ChangeShapes Go.WideShapes Go.ChangeAt Go.RowKit
set_option linter.unusedVariables false
attribute [local go_sem] Oper.semAt_some
def rowG (C : Array Value) (w : World) (k : Nat) : Prop := (∀ i, i < C.size → w.cell? ⟨k, i, none⟩ = C[i]?) ∧ (∀ i, w.frozen? ⟨k, i, none⟩ = false) ∧ k < w.heap.size
theorem rowG_blk {C : Array Value} {X Y : World} {k : Nat} (h : rowG C X k) (e : Y.heap[k]? = X.heap[k]?) (hs : k < Y.heap.size) : rowG C Y k := by
  obtain ⟨h1, h2, h3⟩ := h
  refine ⟨fun i hi => ?_, fun i => ?_, hs⟩
  · rw [← h1 i hi]; unfold World.cell?; simp only [e]
  · rw [← h2 i]; unfold World.frozen?; simp only [e]
theorem rowG_below {C : Array Value} {X Y : World} {k B : Nat} (h : rowG C X k) (hb : Below B X Y) (hk : k < B) : rowG C Y k := rowG_blk h (hb.block k hk) (Nat.lt_of_lt_of_le h.2.2 hb.size)
theorem rowG_b {C : Array Value} {X Y : World} {k : Nat} (h : rowG C X k) (hb : Below X.heap.size X Y) : rowG C Y k := rowG_below h hb h.2.2
theorem rowG_new (C : Array Value) (t : TypeId) (w : World) : rowG C (w.alloc (.cells C t)) w.heap.size := ⟨fun i _ => nwc w C t i, fun i => nwf w C t i, by simp⟩
theorem rowG_at (C : Array Value) (t : TypeId) (w : World) (k : Nat) (hk : k = w.heap.size) : rowG C (w.alloc (.cells C t)) k := by subst hk; exact rowG_new C t w
theorem rowG_alloc {C : Array Value} {X : World} {k : Nat} (h : rowG C X k) (o : Obj) : rowG C (X.alloc o) k := rowG_blk h (Below.heap_alloc _ _ _ h.2.2) (by have := h.2.2; simp; omega)
theorem stay_cell {B : Nat} {X Y : World} {k o : Nat} {u : Value} (h : Stay B X Y) (hk : k < B) : Stay B X (Y.setCell ⟨k, o, none⟩ u) :=
  ⟨by simp only [World.size_setCell]; exact h.1, fun j hj hl => (Below.heap_setCell _ _ _ _ (by simp only; omega)).trans (h.2 j hj hl)⟩
theorem row_other {C : Array Value} {w : World} {k j o : Nat} (u : Value) (h : rowG C w k) (hn : k ≠ j) : rowG C (w.setCell ⟨j, o, none⟩ u) k := rowG_blk h (Below.heap_setCell _ _ _ _ hn) (by simp only [World.size_setCell]; exact h.2.2)
theorem row_put {C : Array Value} {w : World} {k j : Nat} (u : Obj) (h : rowG C w k) (hn : k ≠ j) : rowG C (w.putObj j u) k := rowG_blk h (World.putObj_heap_other hn) (by simp; exact h.2.2)
theorem row_one {a : Value} (c : Value) {w : World} {k : Nat} (h : rowG #[a] w k) : rowG #[c] (w.setCell ⟨k, 0, none⟩ c) k := by
  have q0 : w.cell? ⟨k, 0, none⟩ = some a := h.1 0 (by simp)
  refine ⟨?_, ?_, ?_⟩
  · intro i hi
    have hi' : i < 1 := hi
    obtain rfl : i = 0 := by omega
    clear hi hi'
    go_simp
  · intro i; simp only [World.frozen?_setCell]; exact h.2.1 i
  · simp only [World.size_setCell]; exact h.2.2
theorem row_two {a0 a1 : Value} (c0 c1 : Value) {w : World} {k : Nat} (h : rowG #[a0, a1] w k) : rowG #[c0, c1] ((w.setCell ⟨k, 0, none⟩ c0).setCell ⟨k, 1, none⟩ c1) k := by
  have q0 : w.cell? ⟨k, 0, none⟩ = some a0 := h.1 0 (by simp)
  have q1 : w.cell? ⟨k, 1, none⟩ = some a1 := h.1 1 (by simp)
  refine ⟨?_, ?_, ?_⟩
  · intro i hi
    have hi' : i < 2 := hi
    have hc : i = 0 ∨ i = 1 := by omega
    clear hi hi'
    rcases hc with rfl | rfl <;> go_simp
  · intro i; simp only [World.frozen?_setCell]; exact h.2.1 i
  · simp only [World.size_setCell]; exact h.2.2
theorem res_find {fn : Func} {p q : Tmp} (h : fn.results = #[.cell p 112, .cell q 35]) (tmps : Array Value) (w : World) (g k : Nat) (c0 c1 d : Value) (hp : tmps.getD p undef = .pointer (some ⟨g, 0, none⟩)) (hq : tmps.getD q undef = .pointer (some ⟨k, 0, none⟩))
    (hr : rowG #[c0, c1] w g) (hd : rowG #[d] w k) :
    (results fn tmps).run Tryz.prog w = .ok (.tuple #[.agg #[c0, c1], d]) w := by
  have hp' : tmps[p]?.getD undef = .pointer (some ⟨g, 0, none⟩) := by simpa using hp
  have hq' : tmps[q]?.getD undef = .pointer (some ⟨k, 0, none⟩) := by simpa using hq
  have h0 : w.cell? ⟨g, 0, none⟩ = some c0 := hr.1 0 (by simp)
  have h1 : w.cell? ⟨g, 1, none⟩ = some c1 := hr.1 1 (by simp)
  have h5 : w.cell? ⟨k, 0, none⟩ = some d := hd.1 0 (by simp)
  simp [results, h, hp', hq', go_sem, h0, h1, h5]
theorem every_any (k : Nat) (w : World) : Calls Tryz.prog 44 #[.int .u8 k] w fun e w' => e = .returned (.bool true) ∧ w = w' := by
  go_enter Tryz.func44, Tryz.ntmps44
  go_wp2
  go_ret
  exact ⟨rfl, rfl⟩
theorem readable_any (k : Nat) (w : World) : Calls Tryz.prog 137 #[.int .u8 k] w fun e w' => e = .returned (.bool ((k : Int) != 1)) ∧ w = w' := by
  go_enter Tryz.func137, Tryz.ntmps137
  go_wp2
  go_ret
  exact ⟨rfl, rfl⟩
theorem fetchable_any (k : Nat) (w : World) : Calls Tryz.prog 88 #[.int .u8 k] w fun e w' => e = .returned (.bool ((k : Int) == 1)) ∧ w = w' := by
  go_enter Tryz.func88, Tryz.ntmps88
  go_wp2
  go_ret
  exact ⟨rfl, rfl⟩
theorem writable_any (k : Nat) (w : World) : Calls Tryz.prog 139 #[.int .u8 k] w fun e w' => e = .returned (.bool ((k : Int) == 3 || (k : Int) == 4)) ∧ w = w' := by
  go_enter Tryz.func139, Tryz.ntmps139
  go_wp2
  all_goals go_ret
  all_goals first | exact ⟨rfl, rfl⟩ | (refine ⟨?_, rfl⟩; simp_all; done)
def allocs (w : World) (l : List (Array Value × TypeId)) : World := l.foldl (fun w c => w.alloc (.cells c.1 c.2)) w
theorem allocs_size : ∀ (l : List (Array Value × TypeId)) (w : World), (allocs w l).heap.size = w.heap.size + l.length
  | [], w => rfl
  | c :: l, w => by
    show (allocs (w.alloc (.cells c.1 c.2)) l).heap.size = _
    rw [allocs_size l]; simp; omega
theorem allocs_below : ∀ (l : List (Array Value × TypeId)) (w : World) (B : Nat), B ≤ w.heap.size → Below B w (allocs w l)
  | [], w, B, h => Below.refl _ _
  | c :: l, w, B, h => ((Below.refl B w).alloc h _).trans (allocs_below l _ B (by simp; omega))
theorem allocs_row : ∀ (l : List (Array Value × TypeId)) (w : World) (i : Nat) (h : i < l.length), rowG l[i].1 (allocs w l) (w.heap.size + i)
  | c :: l, w, 0, h => by
    have h1 := rowG_new c.1 c.2 w
    exact rowG_below h1 (allocs_below l (w.alloc (.cells c.1 c.2)) (w.heap.size + 1) (by simp)) (by omega)
  | c :: l, w, i + 1, h => by
    have h1 := allocs_row l (w.alloc (.cells c.1 c.2)) i (by simpa using h)
    rw [World.size_alloc] at h1
    have e : w.heap.size + (i + 1) = w.heap.size + 1 + i := by omega
    rw [e]
    exact h1
/-- What find answers. -/
def fndV (x : Mm) (p n N i : Nat) (ok : Bool) : Value := if N = 1 ∧ ok = true then .tuple #[.agg #[.slice (some ⟨x.vb, off0 (beg x.l i) (p - (rg x.l i).f) n, none⟩) n n, .slice (some ⟨x.tb, off0 (beg x.l i) (p - (rg x.l i).f) n, none⟩) n n], .int .i64 0] else .tuple #[.agg #[.slice none 0 0, .slice none 0 0], .int .i64 40]

theorem find_nil_every (p n : Int) (w : World) : Calls Tryz.prog 43 #[.pointer none, .int .u64 p, .int .i64 n, .func (.func 44) #[] #[]] w fun e w' => e = .returned (.tuple #[.agg #[.slice none 0 0, .slice none 0 0], .int .i64 1]) ∧ Below w.heap.size w w' := by
  go_enter Tryz.func43, Tryz.ntmps43
  go_wp2
  have hr := allocs_row [(#[.int .u64 p], 39), (#[.int .i64 n], 3), (#[.func (.func 44) #[] #[]], 122), (#[.slice none 0 0, .slice none 0 0], 112), (#[.int .i64 1], 35)] w
  have d3 := hr 3 (by simp)
  have d4 := hr 4 (by simp)
  refine bodyPost_ret (res_find rfl _ _ (w.heap.size + 1 + 1 + 1) (w.heap.size + 1 + 1 + 1 + 1) _ _ _ rfl rfl d3 d4) rfl ?_
  exact ⟨rfl, allocs_below [(#[.int .u64 p], 39), (#[.int .i64 n], 3), (#[.func (.func 44) #[] #[]], 122), (#[.slice none 0 0, .slice none 0 0], 112), (#[.int .i64 1], 35)] w _ (Nat.le_refl _)⟩
set_option maxRecDepth 100000 in
set_option maxHeartbeats 2000000 in
theorem find_every (x : Mm) (hx : wfL x.l) (hin : inL x.l) (hl : x.l.length ≤ 16) (hsz : ∀ j < x.l.length, (rg x.l j).s ≤ 1048576) (p n : Nat) (hp : p < 18446744073709551616) (hn : n ≤ 9223372036854775807) (N i : Nat) (hN : Hit x.l p n N i) (ok : Bool)
    (hok : ∀ W, Calls Tryz.prog 44 #[.int .u8 (rg x.l i).k] W fun e w' => e = .returned (.bool ok) ∧ W = w') (w0 : World) (hA : Ar w0 x) :
    Calls Tryz.prog 43 #[.pointer (some ⟨x.mb, 0, none⟩), .int .u64 p, .int .i64 n, .func (.func 44) #[] #[]] w0 fun e w' => e = .returned (fndV x p n N i ok) ∧ Below w0.heap.size w0 w' := by
  refine (callsIn_wide (n := 4)).1 ?_
  refine callsIn_of_wp_marks Tryz.func43 rfl trivial ?_
  simp only [Tryz.ntmps43, List.size_toArray, List.length_cons, List.length_nil, Nat.reduceAdd, Nat.reduceSub, Array.replicate_succ, Array.replicate_zero, List.push_toArray, List.append_toArray, List.nil_append, List.cons_append]
  gi_wp2_with (refine ⟨trivial, ?_⟩; gi_at_call 85; refine (callsIn_wide.2 (hold_any _ rfl p n _)).mono ?_; rintro e w' ⟨rfl, rfl⟩)
  obtain ⟨g, hg⟩ : ∃ g, w0.heap.size = g := ⟨_, rfl⟩
  obtain ⟨W, hW⟩ : ∃ W, allocs w0 [(#[.int .u64 p], 39), (#[.int .i64 n], 3), (#[.func (.func 44) #[] #[]], 122), (#[.slice none 0 0, .slice none 0 0], 112), (#[.int .i64 0], 35), (#[.pointer (some ⟨x.mb, 0, none⟩)], 30), (#[.int .u64 p], 39), (#[.int .u64 n], 39)] = W := ⟨_, rfl⟩
  have hrow := allocs_row [(#[.int .u64 p], 39), (#[.int .i64 n], 3), (#[.func (.func 44) #[] #[]], 122), (#[.slice none 0 0, .slice none 0 0], 112), (#[.int .i64 0], 35), (#[.pointer (some ⟨x.mb, 0, none⟩)], 30), (#[.int .u64 p], 39), (#[.int .u64 n], 39)] w0
  have hsz8 : W.heap.size = g + 8 := by rw [← hW, ← hg]; exact allocs_size _ _
  have hB0 : Below w0.heap.size w0 W := by rw [← hW]; exact allocs_below _ _ _ (Nat.le_refl _)
  rw [hW, hg] at hrow
  have d0 : rowG #[.int .u64 p] W g := hrow 0 (by simp)
  have d1 : rowG #[.int .i64 n] W (g + 1) := hrow 1 (by simp)
  have d2 : rowG #[.func (.func 44) #[] #[]] W (g + 1 + 1) := hrow 2 (by simp)
  have d3 : rowG #[.slice none 0 0, .slice none 0 0] W (g + 1 + 1 + 1) := hrow 3 (by simp)
  have d4 : rowG #[.int .i64 0] W (g + 1 + 1 + 1 + 1) := hrow 4 (by simp)
  have d5 : W.cell? ⟨g + 1 + 1 + 1 + 1 + 1, 0, none⟩ = some (.pointer (some ⟨x.mb, 0, none⟩)) := (hrow 5 (by simp)).1 0 (by simp)
  have d6 : W.cell? ⟨g + 1 + 1 + 1 + 1 + 1 + 1, 0, none⟩ = some (.int .u64 p) := (hrow 6 (by simp)).1 0 (by simp)
  have d7 : W.cell? ⟨g + 1 + 1 + 1 + 1 + 1 + 1 + 1, 0, none⟩ = some (.int .u64 n) := (hrow 7 (by simp)).1 0 (by simp)
  clear hrow
  have hbx : ∀ A, Below W.heap.size W A → Bx A x (g + 1 + 1 + 1 + 1 + 1) p n := fun A hb => ⟨stay hb d5, stay hb d6, stay hb d7, hA.of (below_trans' hB0 (Nat.le_refl _) hb)⟩
  have hWe : (((((((w0.alloc (.cells #[.int .u64 p] 39)).alloc (.cells #[.int .i64 n] 3)).alloc (.cells #[.func (.func 44) #[] #[]] 122)).alloc (.cells #[.slice none 0 0, .slice none 0 0] 112)).alloc (.cells #[.int .i64 0] 35)).alloc (.cells #[.pointer (some ⟨x.mb, 0, none⟩)] 30)).alloc (.cells #[.int .u64 p] 39)).alloc (.cells #[.int .u64 n] 39) = W := hW
  rw [hWe]
  clear hWe
  simp only [hg]
  have hN1 : N ≤ 1 := by rcases hN with ⟨h, _⟩ | ⟨h, _⟩ <;> omega
  refine range_n (by omega) (gf := 110) (lb := #[.pointer (some ⟨g + 1 + 1 + 1 + 1 + 1, 0, none⟩), .pointer (some ⟨g + 1 + 1 + 1 + 1 + 1 + 1, 0, none⟩), .pointer (some ⟨g + 1 + 1 + 1 + 1 + 1 + 1 + 1, 0, none⟩)]) rfl (enters_of Tryz.func110 (by kernel_rfl) rfl)
    (hold_seq x hx hin hl p n hp (by omega) (g + 1 + 1 + 1 + 1 + 1) N i hN 3 (by omega)) hbx (fun _ => rfl)
    (fun k A => (0 < k → ok = false) ∧ Below W.heap.size W A)
    (fun A => (N = 1 ∧ ok = true) ∧ Below w0.heap.size w0 A ∧ rowG #[.slice (some ⟨x.vb, off0 (beg x.l i) (p - (rg x.l i).f) n, none⟩) n n, .slice (some ⟨x.tb, off0 (beg x.l i) (p - (rg x.l i).f) n, none⟩) n n] A (g + 1 + 1 + 1) ∧ rowG #[.int .i64 0] A (g + 1 + 1 + 1 + 1))
    (fun k A ⟨_, h⟩ => hbx A h)
    (fun k A A' ⟨h1, h2⟩ hb => ⟨h1, h2.trans hb⟩)
    (fun A A' ⟨h1, h2, h3, h4⟩ hb => ⟨h1, h2.trans (hb.mono (by omega)), rowG_below h3 hb (by omega), rowG_below h4 hb (by omega)⟩)
    ⟨fun h => by omega, Below.refl _ _⟩
    (fun k a' A => ∃ Bx, W.heap.size + 2 ≤ Bx ∧ rowG #[.int .u64 (rg x.l i).f, .int .u64 (rg x.l i).s, .int .u8 (rg x.l i).k, .slice (some ⟨x.vb, beg x.l i, none⟩) (rg x.l i).s (rg x.l i).s, .slice (some ⟨x.tb, beg x.l i, none⟩) (rg x.l i).s (rg x.l i).s] A Bx ∧ a' = ⟨#[.pointer (some ⟨x.mb, 0, none⟩), .int .u64 p, .int .i64 n, .func (.func 44) #[] #[], undef, .pointer (some ⟨g, 0, none⟩), .pointer (some ⟨g + 1, 0, none⟩), .pointer (some ⟨g + 1 + 1, 0, none⟩), .pointer (some ⟨g + 1 + 1 + 1, 0, none⟩), .pointer (some ⟨g + 1 + 1 + 1 + 1, 0, none⟩), .pointer (some ⟨Bx, 0, none⟩), .pointer (some ⟨x.mb, 0, none⟩), .bool false, undef, .pointer (some ⟨x.mb, 0, none⟩), .int .u64 p, .int .i64 n, .int .u64 n, .func (.func 110) #[] #[.pointer (some ⟨g + 1 + 1 + 1 + 1 + 1, 0, none⟩), .pointer (some ⟨g + 1 + 1 + 1 + 1 + 1 + 1, 0, none⟩), .pointer (some ⟨g + 1 + 1 + 1 + 1 + 1 + 1 + 1, 0, none⟩)], .agg #[.int .u64 (rg x.l i).f, .int .u64 (rg x.l i).s, .int .u8 (rg x.l i).k, .slice (some ⟨x.vb, beg x.l i, none⟩) (rg x.l i).s (rg x.l i).s, .slice (some ⟨x.tb, beg x.l i, none⟩) (rg x.l i).s (rg x.l i).s], undef, undef, undef, undef, undef, undef, undef, undef, undef, undef, undef, undef, undef, undef, undef, undef], []⟩)
    (fun k a' A A' ⟨Bx, h1, h2, h3⟩ hs => ⟨Bx, h1, rowG_blk h2 (hs Bx h1) (by
      have e := hs Bx h1
      have := h2.2.2
      rw [Array.getElem?_eq_getElem this] at e
      exact (Array.getElem?_eq_some_iff.1 e).1), h3⟩)
    ?assign ?body ?done ?stop
  case assign =>
    intro l k A K hs hK
    simp only [arC]
    gi_wp2
    exact hK _ _ (aBelow (Below.refl _ _) _) ⟨A.heap.size, hs, rowG_new _ _ _, rfl⟩
  case body =>
    rintro l k a' A hs ⟨h1, h2⟩ ⟨Bx, hBx, hr, rfl⟩ hk
    have hki : N = 1 ∧ k = 0 := by omega
    obtain ⟨rfl, rfl⟩ := hki
    obtain ⟨hil, hhas⟩ : i < x.l.length ∧ (rg x.l i).has p n := by
      rcases hN with ⟨_, h3, h4, _⟩ | ⟨h3, _⟩
      · exact ⟨h3, h4⟩
      · omega
    obtain ⟨hf1, hf2, hf3⟩ := hhas
    have hs1 := hsz i hil
    obtain ⟨f0, s0, k0⟩ := hx i
    have q0 : A.cell? ⟨g, 0, none⟩ = some (.int .u64 p) := stay h2 (d0.1 0 (by simp))
    have q1 : A.cell? ⟨g + 1, 0, none⟩ = some (.int .i64 n) := stay h2 (d1.1 0 (by simp))
    have q2 : A.cell? ⟨g + 1 + 1, 0, none⟩ = some (.func (.func 44) #[] #[]) := stay h2 (d2.1 0 (by simp))
    have c_0 : A.cell? ⟨Bx, 0, none⟩ = some (.int .u64 (rg x.l i).f) := hr.1 0 (by simp)
    have c_1 : A.cell? ⟨Bx, 1, none⟩ = some (.int .u64 (rg x.l i).s) := hr.1 1 (by simp)
    have c_2 : A.cell? ⟨Bx, 2, none⟩ = some (.int .u8 (rg x.l i).k) := hr.1 2 (by simp)
    have c_3 : A.cell? ⟨Bx, 3, none⟩ = some (.slice (some ⟨x.vb, beg x.l i, none⟩) (rg x.l i).s (rg x.l i).s) := hr.1 3 (by simp)
    have c_4 : A.cell? ⟨Bx, 4, none⟩ = some (.slice (some ⟨x.tb, beg x.l i, none⟩) (rg x.l i).s (rg x.l i).s) := hr.1 4 (by simp)
    have hok := hok A
    cases ok with
    | true =>
      have h3' := rowG_b d3 h2
      have h4' := rowG_b d4 h2
      have y_0 : A.cell? ⟨g + 1 + 1 + 1, 0, none⟩ = some (.slice none 0 0) := h3'.1 0 (by simp)
      have y_1 : A.cell? ⟨g + 1 + 1 + 1, 1, none⟩ = some (.slice none 0 0) := h3'.1 1 (by simp)
      have zy_0 := h3'.2.1 0
      have zy_1 := h3'.2.1 1
      have e_0 : A.cell? ⟨g + 1 + 1 + 1 + 1, 0, none⟩ = some (.int .i64 0) := h4'.1 0 (by simp)
      have ze_0 := h4'.2.1 0
      have hP := part_any x.vb x.tb (beg x.l i) (beg x.l i) (rg x.l i).s (rg x.l i).s (rg x.l i).s (rg x.l i).s (p - (rg x.l i).f) n (by omega) (by omega) (by omega) A
      have hsb := sub64 p (rg x.l i).f hf1 hp
      gi_wp2_with (refine ⟨trivial, ?_⟩; first | (gi_at_call 44; with_reducible refine (CallsIn.inRound l (callsIn_wide.2 hok)).mono ?_; rintro e w1 ⟨rfl, rfl⟩) | (gi_at_call 42; refine (CallsIn.inRound l (callsIn_wide.2 hP)).mono ?_; (rintro e w1 ⟨rfl, hb1⟩); have h3'' := rowG_b h3' hb1; have h4'' := rowG_b h4' hb1; have y_0' : w1.cell? ⟨g + 1 + 1 + 1, 0, none⟩ = some (.slice none 0 0) := h3''.1 0 (by simp); have y_1' : w1.cell? ⟨g + 1 + 1 + 1, 1, none⟩ = some (.slice none 0 0) := h3''.1 1 (by simp); have zy_0' := h3''.2.1 0; have zy_1' := h3''.2.1 1; have e_0' : w1.cell? ⟨g + 1 + 1 + 1 + 1, 0, none⟩ = some (.int .i64 0) := h4''.1 0 (by simp); have ze_0' := h4''.2.1 0))
      have h2' := below_trans' (below_trans' hB0 (Nat.le_refl _) h2) (Nat.le_refl _) hb1
      have h2g : Below g w0 w1 := by rw [← hg]; exact h2'
      refine ⟨?_, ?_, ?_, ?_⟩
      · repeat (first | (with_reducible exact stay_of_below hb1) | (with_reducible refine stay_cell ?_ (by omega)))
      · repeat (first | (with_reducible exact h2') | (with_reducible exact h2g) | (with_reducible refine sBelow ?_ (by omega)))
      · exact row_other _ (row_two _ _ h3'') (by omega)
      · refine row_one (a := .int .i64 0) _ ?_
        repeat (first | (with_reducible exact h4'') | (with_reducible refine row_other _ ?_ (by omega)))
    | false =>
      gi_wp2_with (refine ⟨trivial, ?_⟩; gi_at_call 44; refine (CallsIn.inRound l (callsIn_wide.2 hok)).mono ?_; rintro e w1 ⟨rfl, rfl⟩)
      refine ⟨?_, ?_⟩
      · exact Stay.refl _ _
      · first | exact h2 | (show Below (g + 8) W A; rw [← hsz8]; exact h2)
  case done =>
    rintro D A hD ⟨h1, h2⟩ hK
    have h3' := rowG_b d3 h2
    have h4' := rowG_b d4 h2
    have y_0 : A.cell? ⟨g + 1 + 1 + 1, 0, none⟩ = some (.slice none 0 0) := h3'.1 0 (by simp)
    have y_1 : A.cell? ⟨g + 1 + 1 + 1, 1, none⟩ = some (.slice none 0 0) := h3'.1 1 (by simp)
    have zy_0 := h3'.2.1 0
    have zy_1 := h3'.2.1 1
    have e_0 : A.cell? ⟨g + 1 + 1 + 1 + 1, 0, none⟩ = some (.int .i64 0) := h4'.1 0 (by simp)
    have ze_0 := h4'.2.1 0
    gi_wp2
    have hDA : D < A.heap.size := (Array.getElem?_eq_some_iff.1 hK).1
    obtain ⟨Y, hY⟩ : ∃ Y, (((A.setCell ⟨g + 1 + 1 + 1, 0, none⟩ (.slice none 0 0)).setCell ⟨g + 1 + 1 + 1, 1, none⟩ (.slice none 0 0)).setCell ⟨g + 1 + 1 + 1 + 1, 0, none⟩ (.int .i64 40)) = Y := ⟨_, rfl⟩
    have s1 : Stay W.heap.size A Y := by
      rw [← hY]; repeat (first | (with_reducible exact Stay.refl _ _) | (with_reducible refine stay_cell ?_ (by omega)))
    have s2 : Below w0.heap.size w0 Y := by
      have h2' := below_trans' hB0 (Nat.le_refl _) h2
      rw [← hY]; repeat (first | (with_reducible exact h2') | (with_reducible refine sBelow ?_ (by omega)))
    have s3 : rowG #[.slice none 0 0, .slice none 0 0] Y (g + 1 + 1 + 1) := by
      rw [← hY]; exact row_other _ (row_two _ _ h3') (by omega)
    have s4 : rowG #[.int .i64 40] Y (g + 1 + 1 + 1 + 1) := by
      rw [← hY]; refine row_one (a := .int .i64 0) _ ?_
      repeat (first | (with_reducible exact h4') | (with_reducible refine row_other _ ?_ (by omega)))
    rw [hY]
    have hf : fndV x p n N i ok = .tuple #[.agg #[.slice none 0 0, .slice none 0 0], .int .i64 40] := by
      unfold fndV
      rw [if_neg]
      rintro ⟨e1, e2⟩
      rw [h1 (by omega)] at e2
      cases e2
    rw [hf]
    refine ⟨by simp, .inl ⟨_, _, rfl, run_takeDeferred ((s1.2 D hD hDA).trans hK), ?_⟩⟩
    exact ⟨_, res_find rfl _ _ (g + 1 + 1 + 1) (g + 1 + 1 + 1 + 1) _ _ _ rfl rfl (row_put _ s3 (by omega)) (row_put _ s4 (by omega)), rfl, s2.trans (below_put _ (by omega))⟩
  case stop =>
    rintro D A hD ⟨⟨h0, h1⟩, h2, h3, h4⟩ hK
    gi_wp2
    have hf : fndV x p n N i ok = .tuple #[.agg #[.slice (some ⟨x.vb, off0 (beg x.l i) (p - (rg x.l i).f) n, none⟩) n n, .slice (some ⟨x.tb, off0 (beg x.l i) (p - (rg x.l i).f) n, none⟩) n n], .int .i64 0] := by
      unfold fndV
      rw [if_pos ⟨h0, h1⟩]
    rw [hf]
    refine ⟨by simp, .inl ⟨_, _, rfl, run_takeDeferred hK, ?_⟩⟩
    exact ⟨_, res_find rfl _ _ (g + 1 + 1 + 1) (g + 1 + 1 + 1 + 1) _ _ _ rfl rfl (row_put _ h3 (by omega)) (row_put _ h4 (by omega)), rfl, h2.trans (below_put _ (by omega))⟩

theorem find_nil_readable (p n : Int) (w : World) : Calls Tryz.prog 43 #[.pointer none, .int .u64 p, .int .i64 n, .func (.func 137) #[] #[]] w fun e w' => e = .returned (.tuple #[.agg #[.slice none 0 0, .slice none 0 0], .int .i64 1]) ∧ Below w.heap.size w w' := by
  go_enter Tryz.func43, Tryz.ntmps43
  go_wp2
  have hr := allocs_row [(#[.int .u64 p], 39), (#[.int .i64 n], 3), (#[.func (.func 137) #[] #[]], 122), (#[.slice none 0 0, .slice none 0 0], 112), (#[.int .i64 1], 35)] w
  have d3 := hr 3 (by simp)
  have d4 := hr 4 (by simp)
  refine bodyPost_ret (res_find rfl _ _ (w.heap.size + 1 + 1 + 1) (w.heap.size + 1 + 1 + 1 + 1) _ _ _ rfl rfl d3 d4) rfl ?_
  exact ⟨rfl, allocs_below [(#[.int .u64 p], 39), (#[.int .i64 n], 3), (#[.func (.func 137) #[] #[]], 122), (#[.slice none 0 0, .slice none 0 0], 112), (#[.int .i64 1], 35)] w _ (Nat.le_refl _)⟩
set_option maxRecDepth 100000 in
set_option maxHeartbeats 2000000 in
theorem find_readable (x : Mm) (hx : wfL x.l) (hin : inL x.l) (hl : x.l.length ≤ 16) (hsz : ∀ j < x.l.length, (rg x.l j).s ≤ 1048576) (p n : Nat) (hp : p < 18446744073709551616) (hn : n ≤ 9223372036854775807) (N i : Nat) (hN : Hit x.l p n N i) (ok : Bool)
    (hok : ∀ W, Calls Tryz.prog 137 #[.int .u8 (rg x.l i).k] W fun e w' => e = .returned (.bool ok) ∧ W = w') (w0 : World) (hA : Ar w0 x) :
    Calls Tryz.prog 43 #[.pointer (some ⟨x.mb, 0, none⟩), .int .u64 p, .int .i64 n, .func (.func 137) #[] #[]] w0 fun e w' => e = .returned (fndV x p n N i ok) ∧ Below w0.heap.size w0 w' := by
  refine (callsIn_wide (n := 4)).1 ?_
  refine callsIn_of_wp_marks Tryz.func43 rfl trivial ?_
  simp only [Tryz.ntmps43, List.size_toArray, List.length_cons, List.length_nil, Nat.reduceAdd, Nat.reduceSub, Array.replicate_succ, Array.replicate_zero, List.push_toArray, List.append_toArray, List.nil_append, List.cons_append]
  gi_wp2_with (refine ⟨trivial, ?_⟩; gi_at_call 85; refine (callsIn_wide.2 (hold_any _ rfl p n _)).mono ?_; rintro e w' ⟨rfl, rfl⟩)
  obtain ⟨g, hg⟩ : ∃ g, w0.heap.size = g := ⟨_, rfl⟩
  obtain ⟨W, hW⟩ : ∃ W, allocs w0 [(#[.int .u64 p], 39), (#[.int .i64 n], 3), (#[.func (.func 137) #[] #[]], 122), (#[.slice none 0 0, .slice none 0 0], 112), (#[.int .i64 0], 35), (#[.pointer (some ⟨x.mb, 0, none⟩)], 30), (#[.int .u64 p], 39), (#[.int .u64 n], 39)] = W := ⟨_, rfl⟩
  have hrow := allocs_row [(#[.int .u64 p], 39), (#[.int .i64 n], 3), (#[.func (.func 137) #[] #[]], 122), (#[.slice none 0 0, .slice none 0 0], 112), (#[.int .i64 0], 35), (#[.pointer (some ⟨x.mb, 0, none⟩)], 30), (#[.int .u64 p], 39), (#[.int .u64 n], 39)] w0
  have hsz8 : W.heap.size = g + 8 := by rw [← hW, ← hg]; exact allocs_size _ _
  have hB0 : Below w0.heap.size w0 W := by rw [← hW]; exact allocs_below _ _ _ (Nat.le_refl _)
  rw [hW, hg] at hrow
  have d0 : rowG #[.int .u64 p] W g := hrow 0 (by simp)
  have d1 : rowG #[.int .i64 n] W (g + 1) := hrow 1 (by simp)
  have d2 : rowG #[.func (.func 137) #[] #[]] W (g + 1 + 1) := hrow 2 (by simp)
  have d3 : rowG #[.slice none 0 0, .slice none 0 0] W (g + 1 + 1 + 1) := hrow 3 (by simp)
  have d4 : rowG #[.int .i64 0] W (g + 1 + 1 + 1 + 1) := hrow 4 (by simp)
  have d5 : W.cell? ⟨g + 1 + 1 + 1 + 1 + 1, 0, none⟩ = some (.pointer (some ⟨x.mb, 0, none⟩)) := (hrow 5 (by simp)).1 0 (by simp)
  have d6 : W.cell? ⟨g + 1 + 1 + 1 + 1 + 1 + 1, 0, none⟩ = some (.int .u64 p) := (hrow 6 (by simp)).1 0 (by simp)
  have d7 : W.cell? ⟨g + 1 + 1 + 1 + 1 + 1 + 1 + 1, 0, none⟩ = some (.int .u64 n) := (hrow 7 (by simp)).1 0 (by simp)
  clear hrow
  have hbx : ∀ A, Below W.heap.size W A → Bx A x (g + 1 + 1 + 1 + 1 + 1) p n := fun A hb => ⟨stay hb d5, stay hb d6, stay hb d7, hA.of (below_trans' hB0 (Nat.le_refl _) hb)⟩
  have hWe : (((((((w0.alloc (.cells #[.int .u64 p] 39)).alloc (.cells #[.int .i64 n] 3)).alloc (.cells #[.func (.func 137) #[] #[]] 122)).alloc (.cells #[.slice none 0 0, .slice none 0 0] 112)).alloc (.cells #[.int .i64 0] 35)).alloc (.cells #[.pointer (some ⟨x.mb, 0, none⟩)] 30)).alloc (.cells #[.int .u64 p] 39)).alloc (.cells #[.int .u64 n] 39) = W := hW
  rw [hWe]
  clear hWe
  simp only [hg]
  have hN1 : N ≤ 1 := by rcases hN with ⟨h, _⟩ | ⟨h, _⟩ <;> omega
  refine range_n (by omega) (gf := 110) (lb := #[.pointer (some ⟨g + 1 + 1 + 1 + 1 + 1, 0, none⟩), .pointer (some ⟨g + 1 + 1 + 1 + 1 + 1 + 1, 0, none⟩), .pointer (some ⟨g + 1 + 1 + 1 + 1 + 1 + 1 + 1, 0, none⟩)]) rfl (enters_of Tryz.func110 (by kernel_rfl) rfl)
    (hold_seq x hx hin hl p n hp (by omega) (g + 1 + 1 + 1 + 1 + 1) N i hN 3 (by omega)) hbx (fun _ => rfl)
    (fun k A => (0 < k → ok = false) ∧ Below W.heap.size W A)
    (fun A => (N = 1 ∧ ok = true) ∧ Below w0.heap.size w0 A ∧ rowG #[.slice (some ⟨x.vb, off0 (beg x.l i) (p - (rg x.l i).f) n, none⟩) n n, .slice (some ⟨x.tb, off0 (beg x.l i) (p - (rg x.l i).f) n, none⟩) n n] A (g + 1 + 1 + 1) ∧ rowG #[.int .i64 0] A (g + 1 + 1 + 1 + 1))
    (fun k A ⟨_, h⟩ => hbx A h)
    (fun k A A' ⟨h1, h2⟩ hb => ⟨h1, h2.trans hb⟩)
    (fun A A' ⟨h1, h2, h3, h4⟩ hb => ⟨h1, h2.trans (hb.mono (by omega)), rowG_below h3 hb (by omega), rowG_below h4 hb (by omega)⟩)
    ⟨fun h => by omega, Below.refl _ _⟩
    (fun k a' A => ∃ Bx, W.heap.size + 2 ≤ Bx ∧ rowG #[.int .u64 (rg x.l i).f, .int .u64 (rg x.l i).s, .int .u8 (rg x.l i).k, .slice (some ⟨x.vb, beg x.l i, none⟩) (rg x.l i).s (rg x.l i).s, .slice (some ⟨x.tb, beg x.l i, none⟩) (rg x.l i).s (rg x.l i).s] A Bx ∧ a' = ⟨#[.pointer (some ⟨x.mb, 0, none⟩), .int .u64 p, .int .i64 n, .func (.func 137) #[] #[], undef, .pointer (some ⟨g, 0, none⟩), .pointer (some ⟨g + 1, 0, none⟩), .pointer (some ⟨g + 1 + 1, 0, none⟩), .pointer (some ⟨g + 1 + 1 + 1, 0, none⟩), .pointer (some ⟨g + 1 + 1 + 1 + 1, 0, none⟩), .pointer (some ⟨Bx, 0, none⟩), .pointer (some ⟨x.mb, 0, none⟩), .bool false, undef, .pointer (some ⟨x.mb, 0, none⟩), .int .u64 p, .int .i64 n, .int .u64 n, .func (.func 110) #[] #[.pointer (some ⟨g + 1 + 1 + 1 + 1 + 1, 0, none⟩), .pointer (some ⟨g + 1 + 1 + 1 + 1 + 1 + 1, 0, none⟩), .pointer (some ⟨g + 1 + 1 + 1 + 1 + 1 + 1 + 1, 0, none⟩)], .agg #[.int .u64 (rg x.l i).f, .int .u64 (rg x.l i).s, .int .u8 (rg x.l i).k, .slice (some ⟨x.vb, beg x.l i, none⟩) (rg x.l i).s (rg x.l i).s, .slice (some ⟨x.tb, beg x.l i, none⟩) (rg x.l i).s (rg x.l i).s], undef, undef, undef, undef, undef, undef, undef, undef, undef, undef, undef, undef, undef, undef, undef, undef], []⟩)
    (fun k a' A A' ⟨Bx, h1, h2, h3⟩ hs => ⟨Bx, h1, rowG_blk h2 (hs Bx h1) (by
      have e := hs Bx h1
      have := h2.2.2
      rw [Array.getElem?_eq_getElem this] at e
      exact (Array.getElem?_eq_some_iff.1 e).1), h3⟩)
    ?assign ?body ?done ?stop
  case assign =>
    intro l k A K hs hK
    simp only [arC]
    gi_wp2
    exact hK _ _ (aBelow (Below.refl _ _) _) ⟨A.heap.size, hs, rowG_new _ _ _, rfl⟩
  case body =>
    rintro l k a' A hs ⟨h1, h2⟩ ⟨Bx, hBx, hr, rfl⟩ hk
    have hki : N = 1 ∧ k = 0 := by omega
    obtain ⟨rfl, rfl⟩ := hki
    obtain ⟨hil, hhas⟩ : i < x.l.length ∧ (rg x.l i).has p n := by
      rcases hN with ⟨_, h3, h4, _⟩ | ⟨h3, _⟩
      · exact ⟨h3, h4⟩
      · omega
    obtain ⟨hf1, hf2, hf3⟩ := hhas
    have hs1 := hsz i hil
    obtain ⟨f0, s0, k0⟩ := hx i
    have q0 : A.cell? ⟨g, 0, none⟩ = some (.int .u64 p) := stay h2 (d0.1 0 (by simp))
    have q1 : A.cell? ⟨g + 1, 0, none⟩ = some (.int .i64 n) := stay h2 (d1.1 0 (by simp))
    have q2 : A.cell? ⟨g + 1 + 1, 0, none⟩ = some (.func (.func 137) #[] #[]) := stay h2 (d2.1 0 (by simp))
    have c_0 : A.cell? ⟨Bx, 0, none⟩ = some (.int .u64 (rg x.l i).f) := hr.1 0 (by simp)
    have c_1 : A.cell? ⟨Bx, 1, none⟩ = some (.int .u64 (rg x.l i).s) := hr.1 1 (by simp)
    have c_2 : A.cell? ⟨Bx, 2, none⟩ = some (.int .u8 (rg x.l i).k) := hr.1 2 (by simp)
    have c_3 : A.cell? ⟨Bx, 3, none⟩ = some (.slice (some ⟨x.vb, beg x.l i, none⟩) (rg x.l i).s (rg x.l i).s) := hr.1 3 (by simp)
    have c_4 : A.cell? ⟨Bx, 4, none⟩ = some (.slice (some ⟨x.tb, beg x.l i, none⟩) (rg x.l i).s (rg x.l i).s) := hr.1 4 (by simp)
    have hok := hok A
    cases ok with
    | true =>
      have h3' := rowG_b d3 h2
      have h4' := rowG_b d4 h2
      have y_0 : A.cell? ⟨g + 1 + 1 + 1, 0, none⟩ = some (.slice none 0 0) := h3'.1 0 (by simp)
      have y_1 : A.cell? ⟨g + 1 + 1 + 1, 1, none⟩ = some (.slice none 0 0) := h3'.1 1 (by simp)
      have zy_0 := h3'.2.1 0
      have zy_1 := h3'.2.1 1
      have e_0 : A.cell? ⟨g + 1 + 1 + 1 + 1, 0, none⟩ = some (.int .i64 0) := h4'.1 0 (by simp)
      have ze_0 := h4'.2.1 0
      have hP := part_any x.vb x.tb (beg x.l i) (beg x.l i) (rg x.l i).s (rg x.l i).s (rg x.l i).s (rg x.l i).s (p - (rg x.l i).f) n (by omega) (by omega) (by omega) A
      have hsb := sub64 p (rg x.l i).f hf1 hp
      gi_wp2_with (refine ⟨trivial, ?_⟩; first | (gi_at_call 137; with_reducible refine (CallsIn.inRound l (callsIn_wide.2 hok)).mono ?_; rintro e w1 ⟨rfl, rfl⟩) | (gi_at_call 42; refine (CallsIn.inRound l (callsIn_wide.2 hP)).mono ?_; (rintro e w1 ⟨rfl, hb1⟩); have h3'' := rowG_b h3' hb1; have h4'' := rowG_b h4' hb1; have y_0' : w1.cell? ⟨g + 1 + 1 + 1, 0, none⟩ = some (.slice none 0 0) := h3''.1 0 (by simp); have y_1' : w1.cell? ⟨g + 1 + 1 + 1, 1, none⟩ = some (.slice none 0 0) := h3''.1 1 (by simp); have zy_0' := h3''.2.1 0; have zy_1' := h3''.2.1 1; have e_0' : w1.cell? ⟨g + 1 + 1 + 1 + 1, 0, none⟩ = some (.int .i64 0) := h4''.1 0 (by simp); have ze_0' := h4''.2.1 0))
      have h2' := below_trans' (below_trans' hB0 (Nat.le_refl _) h2) (Nat.le_refl _) hb1
      have h2g : Below g w0 w1 := by rw [← hg]; exact h2'
      refine ⟨?_, ?_, ?_, ?_⟩
      · repeat (first | (with_reducible exact stay_of_below hb1) | (with_reducible refine stay_cell ?_ (by omega)))
      · repeat (first | (with_reducible exact h2') | (with_reducible exact h2g) | (with_reducible refine sBelow ?_ (by omega)))
      · exact row_other _ (row_two _ _ h3'') (by omega)
      · refine row_one (a := .int .i64 0) _ ?_
        repeat (first | (with_reducible exact h4'') | (with_reducible refine row_other _ ?_ (by omega)))
    | false =>
      gi_wp2_with (refine ⟨trivial, ?_⟩; gi_at_call 137; refine (CallsIn.inRound l (callsIn_wide.2 hok)).mono ?_; rintro e w1 ⟨rfl, rfl⟩)
      refine ⟨?_, ?_⟩
      · exact Stay.refl _ _
      · first | exact h2 | (show Below (g + 8) W A; rw [← hsz8]; exact h2)
  case done =>
    rintro D A hD ⟨h1, h2⟩ hK
    have h3' := rowG_b d3 h2
    have h4' := rowG_b d4 h2
    have y_0 : A.cell? ⟨g + 1 + 1 + 1, 0, none⟩ = some (.slice none 0 0) := h3'.1 0 (by simp)
    have y_1 : A.cell? ⟨g + 1 + 1 + 1, 1, none⟩ = some (.slice none 0 0) := h3'.1 1 (by simp)
    have zy_0 := h3'.2.1 0
    have zy_1 := h3'.2.1 1
    have e_0 : A.cell? ⟨g + 1 + 1 + 1 + 1, 0, none⟩ = some (.int .i64 0) := h4'.1 0 (by simp)
    have ze_0 := h4'.2.1 0
    gi_wp2
    have hDA : D < A.heap.size := (Array.getElem?_eq_some_iff.1 hK).1
    obtain ⟨Y, hY⟩ : ∃ Y, (((A.setCell ⟨g + 1 + 1 + 1, 0, none⟩ (.slice none 0 0)).setCell ⟨g + 1 + 1 + 1, 1, none⟩ (.slice none 0 0)).setCell ⟨g + 1 + 1 + 1 + 1, 0, none⟩ (.int .i64 40)) = Y := ⟨_, rfl⟩
    have s1 : Stay W.heap.size A Y := by
      rw [← hY]; repeat (first | (with_reducible exact Stay.refl _ _) | (with_reducible refine stay_cell ?_ (by omega)))
    have s2 : Below w0.heap.size w0 Y := by
      have h2' := below_trans' hB0 (Nat.le_refl _) h2
      rw [← hY]; repeat (first | (with_reducible exact h2') | (with_reducible refine sBelow ?_ (by omega)))
    have s3 : rowG #[.slice none 0 0, .slice none 0 0] Y (g + 1 + 1 + 1) := by
      rw [← hY]; exact row_other _ (row_two _ _ h3') (by omega)
    have s4 : rowG #[.int .i64 40] Y (g + 1 + 1 + 1 + 1) := by
      rw [← hY]; refine row_one (a := .int .i64 0) _ ?_
      repeat (first | (with_reducible exact h4') | (with_reducible refine row_other _ ?_ (by omega)))
    rw [hY]
    have hf : fndV x p n N i ok = .tuple #[.agg #[.slice none 0 0, .slice none 0 0], .int .i64 40] := by
      unfold fndV
      rw [if_neg]
      rintro ⟨e1, e2⟩
      rw [h1 (by omega)] at e2
      cases e2
    rw [hf]
    refine ⟨by simp, .inl ⟨_, _, rfl, run_takeDeferred ((s1.2 D hD hDA).trans hK), ?_⟩⟩
    exact ⟨_, res_find rfl _ _ (g + 1 + 1 + 1) (g + 1 + 1 + 1 + 1) _ _ _ rfl rfl (row_put _ s3 (by omega)) (row_put _ s4 (by omega)), rfl, s2.trans (below_put _ (by omega))⟩
  case stop =>
    rintro D A hD ⟨⟨h0, h1⟩, h2, h3, h4⟩ hK
    gi_wp2
    have hf : fndV x p n N i ok = .tuple #[.agg #[.slice (some ⟨x.vb, off0 (beg x.l i) (p - (rg x.l i).f) n, none⟩) n n, .slice (some ⟨x.tb, off0 (beg x.l i) (p - (rg x.l i).f) n, none⟩) n n], .int .i64 0] := by
      unfold fndV
      rw [if_pos ⟨h0, h1⟩]
    rw [hf]
    refine ⟨by simp, .inl ⟨_, _, rfl, run_takeDeferred hK, ?_⟩⟩
    exact ⟨_, res_find rfl _ _ (g + 1 + 1 + 1) (g + 1 + 1 + 1 + 1) _ _ _ rfl rfl (row_put _ h3 (by omega)) (row_put _ h4 (by omega)), rfl, h2.trans (below_put _ (by omega))⟩

theorem find_nil_writable (p n : Int) (w : World) : Calls Tryz.prog 43 #[.pointer none, .int .u64 p, .int .i64 n, .func (.func 139) #[] #[]] w fun e w' => e = .returned (.tuple #[.agg #[.slice none 0 0, .slice none 0 0], .int .i64 1]) ∧ Below w.heap.size w w' := by
  go_enter Tryz.func43, Tryz.ntmps43
  go_wp2
  have hr := allocs_row [(#[.int .u64 p], 39), (#[.int .i64 n], 3), (#[.func (.func 139) #[] #[]], 122), (#[.slice none 0 0, .slice none 0 0], 112), (#[.int .i64 1], 35)] w
  have d3 := hr 3 (by simp)
  have d4 := hr 4 (by simp)
  refine bodyPost_ret (res_find rfl _ _ (w.heap.size + 1 + 1 + 1) (w.heap.size + 1 + 1 + 1 + 1) _ _ _ rfl rfl d3 d4) rfl ?_
  exact ⟨rfl, allocs_below [(#[.int .u64 p], 39), (#[.int .i64 n], 3), (#[.func (.func 139) #[] #[]], 122), (#[.slice none 0 0, .slice none 0 0], 112), (#[.int .i64 1], 35)] w _ (Nat.le_refl _)⟩
set_option maxRecDepth 100000 in
set_option maxHeartbeats 2000000 in
theorem find_writable (x : Mm) (hx : wfL x.l) (hin : inL x.l) (hl : x.l.length ≤ 16) (hsz : ∀ j < x.l.length, (rg x.l j).s ≤ 1048576) (p n : Nat) (hp : p < 18446744073709551616) (hn : n ≤ 9223372036854775807) (N i : Nat) (hN : Hit x.l p n N i) (ok : Bool)
    (hok : ∀ W, Calls Tryz.prog 139 #[.int .u8 (rg x.l i).k] W fun e w' => e = .returned (.bool ok) ∧ W = w') (w0 : World) (hA : Ar w0 x) :
    Calls Tryz.prog 43 #[.pointer (some ⟨x.mb, 0, none⟩), .int .u64 p, .int .i64 n, .func (.func 139) #[] #[]] w0 fun e w' => e = .returned (fndV x p n N i ok) ∧ Below w0.heap.size w0 w' := by
  refine (callsIn_wide (n := 4)).1 ?_
  refine callsIn_of_wp_marks Tryz.func43 rfl trivial ?_
  simp only [Tryz.ntmps43, List.size_toArray, List.length_cons, List.length_nil, Nat.reduceAdd, Nat.reduceSub, Array.replicate_succ, Array.replicate_zero, List.push_toArray, List.append_toArray, List.nil_append, List.cons_append]
  gi_wp2_with (refine ⟨trivial, ?_⟩; gi_at_call 85; refine (callsIn_wide.2 (hold_any _ rfl p n _)).mono ?_; rintro e w' ⟨rfl, rfl⟩)
  obtain ⟨g, hg⟩ : ∃ g, w0.heap.size = g := ⟨_, rfl⟩
  obtain ⟨W, hW⟩ : ∃ W, allocs w0 [(#[.int .u64 p], 39), (#[.int .i64 n], 3), (#[.func (.func 139) #[] #[]], 122), (#[.slice none 0 0, .slice none 0 0], 112), (#[.int .i64 0], 35), (#[.pointer (some ⟨x.mb, 0, none⟩)], 30), (#[.int .u64 p], 39), (#[.int .u64 n], 39)] = W := ⟨_, rfl⟩
  have hrow := allocs_row [(#[.int .u64 p], 39), (#[.int .i64 n], 3), (#[.func (.func 139) #[] #[]], 122), (#[.slice none 0 0, .slice none 0 0], 112), (#[.int .i64 0], 35), (#[.pointer (some ⟨x.mb, 0, none⟩)], 30), (#[.int .u64 p], 39), (#[.int .u64 n], 39)] w0
  have hsz8 : W.heap.size = g + 8 := by rw [← hW, ← hg]; exact allocs_size _ _
  have hB0 : Below w0.heap.size w0 W := by rw [← hW]; exact allocs_below _ _ _ (Nat.le_refl _)
  rw [hW, hg] at hrow
  have d0 : rowG #[.int .u64 p] W g := hrow 0 (by simp)
  have d1 : rowG #[.int .i64 n] W (g + 1) := hrow 1 (by simp)
  have d2 : rowG #[.func (.func 139) #[] #[]] W (g + 1 + 1) := hrow 2 (by simp)
  have d3 : rowG #[.slice none 0 0, .slice none 0 0] W (g + 1 + 1 + 1) := hrow 3 (by simp)
  have d4 : rowG #[.int .i64 0] W (g + 1 + 1 + 1 + 1) := hrow 4 (by simp)
  have d5 : W.cell? ⟨g + 1 + 1 + 1 + 1 + 1, 0, none⟩ = some (.pointer (some ⟨x.mb, 0, none⟩)) := (hrow 5 (by simp)).1 0 (by simp)
  have d6 : W.cell? ⟨g + 1 + 1 + 1 + 1 + 1 + 1, 0, none⟩ = some (.int .u64 p) := (hrow 6 (by simp)).1 0 (by simp)
  have d7 : W.cell? ⟨g + 1 + 1 + 1 + 1 + 1 + 1 + 1, 0, none⟩ = some (.int .u64 n) := (hrow 7 (by simp)).1 0 (by simp)
  clear hrow
  have hbx : ∀ A, Below W.heap.size W A → Bx A x (g + 1 + 1 + 1 + 1 + 1) p n := fun A hb => ⟨stay hb d5, stay hb d6, stay hb d7, hA.of (below_trans' hB0 (Nat.le_refl _) hb)⟩
  have hWe : (((((((w0.alloc (.cells #[.int .u64 p] 39)).alloc (.cells #[.int .i64 n] 3)).alloc (.cells #[.func (.func 139) #[] #[]] 122)).alloc (.cells #[.slice none 0 0, .slice none 0 0] 112)).alloc (.cells #[.int .i64 0] 35)).alloc (.cells #[.pointer (some ⟨x.mb, 0, none⟩)] 30)).alloc (.cells #[.int .u64 p] 39)).alloc (.cells #[.int .u64 n] 39) = W := hW
  rw [hWe]
  clear hWe
  simp only [hg]
  have hN1 : N ≤ 1 := by rcases hN with ⟨h, _⟩ | ⟨h, _⟩ <;> omega
  refine range_n (by omega) (gf := 110) (lb := #[.pointer (some ⟨g + 1 + 1 + 1 + 1 + 1, 0, none⟩), .pointer (some ⟨g + 1 + 1 + 1 + 1 + 1 + 1, 0, none⟩), .pointer (some ⟨g + 1 + 1 + 1 + 1 + 1 + 1 + 1, 0, none⟩)]) rfl (enters_of Tryz.func110 (by kernel_rfl) rfl)
    (hold_seq x hx hin hl p n hp (by omega) (g + 1 + 1 + 1 + 1 + 1) N i hN 3 (by omega)) hbx (fun _ => rfl)
    (fun k A => (0 < k → ok = false) ∧ Below W.heap.size W A)
    (fun A => (N = 1 ∧ ok = true) ∧ Below w0.heap.size w0 A ∧ rowG #[.slice (some ⟨x.vb, off0 (beg x.l i) (p - (rg x.l i).f) n, none⟩) n n, .slice (some ⟨x.tb, off0 (beg x.l i) (p - (rg x.l i).f) n, none⟩) n n] A (g + 1 + 1 + 1) ∧ rowG #[.int .i64 0] A (g + 1 + 1 + 1 + 1))
    (fun k A ⟨_, h⟩ => hbx A h)
    (fun k A A' ⟨h1, h2⟩ hb => ⟨h1, h2.trans hb⟩)
    (fun A A' ⟨h1, h2, h3, h4⟩ hb => ⟨h1, h2.trans (hb.mono (by omega)), rowG_below h3 hb (by omega), rowG_below h4 hb (by omega)⟩)
    ⟨fun h => by omega, Below.refl _ _⟩
    (fun k a' A => ∃ Bx, W.heap.size + 2 ≤ Bx ∧ rowG #[.int .u64 (rg x.l i).f, .int .u64 (rg x.l i).s, .int .u8 (rg x.l i).k, .slice (some ⟨x.vb, beg x.l i, none⟩) (rg x.l i).s (rg x.l i).s, .slice (some ⟨x.tb, beg x.l i, none⟩) (rg x.l i).s (rg x.l i).s] A Bx ∧ a' = ⟨#[.pointer (some ⟨x.mb, 0, none⟩), .int .u64 p, .int .i64 n, .func (.func 139) #[] #[], undef, .pointer (some ⟨g, 0, none⟩), .pointer (some ⟨g + 1, 0, none⟩), .pointer (some ⟨g + 1 + 1, 0, none⟩), .pointer (some ⟨g + 1 + 1 + 1, 0, none⟩), .pointer (some ⟨g + 1 + 1 + 1 + 1, 0, none⟩), .pointer (some ⟨Bx, 0, none⟩), .pointer (some ⟨x.mb, 0, none⟩), .bool false, undef, .pointer (some ⟨x.mb, 0, none⟩), .int .u64 p, .int .i64 n, .int .u64 n, .func (.func 110) #[] #[.pointer (some ⟨g + 1 + 1 + 1 + 1 + 1, 0, none⟩), .pointer (some ⟨g + 1 + 1 + 1 + 1 + 1 + 1, 0, none⟩), .pointer (some ⟨g + 1 + 1 + 1 + 1 + 1 + 1 + 1, 0, none⟩)], .agg #[.int .u64 (rg x.l i).f, .int .u64 (rg x.l i).s, .int .u8 (rg x.l i).k, .slice (some ⟨x.vb, beg x.l i, none⟩) (rg x.l i).s (rg x.l i).s, .slice (some ⟨x.tb, beg x.l i, none⟩) (rg x.l i).s (rg x.l i).s], undef, undef, undef, undef, undef, undef, undef, undef, undef, undef, undef, undef, undef, undef, undef, undef], []⟩)
    (fun k a' A A' ⟨Bx, h1, h2, h3⟩ hs => ⟨Bx, h1, rowG_blk h2 (hs Bx h1) (by
      have e := hs Bx h1
      have := h2.2.2
      rw [Array.getElem?_eq_getElem this] at e
      exact (Array.getElem?_eq_some_iff.1 e).1), h3⟩)
    ?assign ?body ?done ?stop
  case assign =>
    intro l k A K hs hK
    simp only [arC]
    gi_wp2
    exact hK _ _ (aBelow (Below.refl _ _) _) ⟨A.heap.size, hs, rowG_new _ _ _, rfl⟩
  case body =>
    rintro l k a' A hs ⟨h1, h2⟩ ⟨Bx, hBx, hr, rfl⟩ hk
    have hki : N = 1 ∧ k = 0 := by omega
    obtain ⟨rfl, rfl⟩ := hki
    obtain ⟨hil, hhas⟩ : i < x.l.length ∧ (rg x.l i).has p n := by
      rcases hN with ⟨_, h3, h4, _⟩ | ⟨h3, _⟩
      · exact ⟨h3, h4⟩
      · omega
    obtain ⟨hf1, hf2, hf3⟩ := hhas
    have hs1 := hsz i hil
    obtain ⟨f0, s0, k0⟩ := hx i
    have q0 : A.cell? ⟨g, 0, none⟩ = some (.int .u64 p) := stay h2 (d0.1 0 (by simp))
    have q1 : A.cell? ⟨g + 1, 0, none⟩ = some (.int .i64 n) := stay h2 (d1.1 0 (by simp))
    have q2 : A.cell? ⟨g + 1 + 1, 0, none⟩ = some (.func (.func 139) #[] #[]) := stay h2 (d2.1 0 (by simp))
    have c_0 : A.cell? ⟨Bx, 0, none⟩ = some (.int .u64 (rg x.l i).f) := hr.1 0 (by simp)
    have c_1 : A.cell? ⟨Bx, 1, none⟩ = some (.int .u64 (rg x.l i).s) := hr.1 1 (by simp)
    have c_2 : A.cell? ⟨Bx, 2, none⟩ = some (.int .u8 (rg x.l i).k) := hr.1 2 (by simp)
    have c_3 : A.cell? ⟨Bx, 3, none⟩ = some (.slice (some ⟨x.vb, beg x.l i, none⟩) (rg x.l i).s (rg x.l i).s) := hr.1 3 (by simp)
    have c_4 : A.cell? ⟨Bx, 4, none⟩ = some (.slice (some ⟨x.tb, beg x.l i, none⟩) (rg x.l i).s (rg x.l i).s) := hr.1 4 (by simp)
    have hok := hok A
    cases ok with
    | true =>
      have h3' := rowG_b d3 h2
      have h4' := rowG_b d4 h2
      have y_0 : A.cell? ⟨g + 1 + 1 + 1, 0, none⟩ = some (.slice none 0 0) := h3'.1 0 (by simp)
      have y_1 : A.cell? ⟨g + 1 + 1 + 1, 1, none⟩ = some (.slice none 0 0) := h3'.1 1 (by simp)
      have zy_0 := h3'.2.1 0
      have zy_1 := h3'.2.1 1
      have e_0 : A.cell? ⟨g + 1 + 1 + 1 + 1, 0, none⟩ = some (.int .i64 0) := h4'.1 0 (by simp)
      have ze_0 := h4'.2.1 0
      have hP := part_any x.vb x.tb (beg x.l i) (beg x.l i) (rg x.l i).s (rg x.l i).s (rg x.l i).s (rg x.l i).s (p - (rg x.l i).f) n (by omega) (by omega) (by omega) A
      have hsb := sub64 p (rg x.l i).f hf1 hp
      gi_wp2_with (refine ⟨trivial, ?_⟩; first | (gi_at_call 139; with_reducible refine (CallsIn.inRound l (callsIn_wide.2 hok)).mono ?_; rintro e w1 ⟨rfl, rfl⟩) | (gi_at_call 42; refine (CallsIn.inRound l (callsIn_wide.2 hP)).mono ?_; (rintro e w1 ⟨rfl, hb1⟩); have h3'' := rowG_b h3' hb1; have h4'' := rowG_b h4' hb1; have y_0' : w1.cell? ⟨g + 1 + 1 + 1, 0, none⟩ = some (.slice none 0 0) := h3''.1 0 (by simp); have y_1' : w1.cell? ⟨g + 1 + 1 + 1, 1, none⟩ = some (.slice none 0 0) := h3''.1 1 (by simp); have zy_0' := h3''.2.1 0; have zy_1' := h3''.2.1 1; have e_0' : w1.cell? ⟨g + 1 + 1 + 1 + 1, 0, none⟩ = some (.int .i64 0) := h4''.1 0 (by simp); have ze_0' := h4''.2.1 0))
      have h2' := below_trans' (below_trans' hB0 (Nat.le_refl _) h2) (Nat.le_refl _) hb1
      have h2g : Below g w0 w1 := by rw [← hg]; exact h2'
      refine ⟨?_, ?_, ?_, ?_⟩
      · repeat (first | (with_reducible exact stay_of_below hb1) | (with_reducible refine stay_cell ?_ (by omega)))
      · repeat (first | (with_reducible exact h2') | (with_reducible exact h2g) | (with_reducible refine sBelow ?_ (by omega)))
      · exact row_other _ (row_two _ _ h3'') (by omega)
      · refine row_one (a := .int .i64 0) _ ?_
        repeat (first | (with_reducible exact h4'') | (with_reducible refine row_other _ ?_ (by omega)))
    | false =>
      gi_wp2_with (refine ⟨trivial, ?_⟩; gi_at_call 139; refine (CallsIn.inRound l (callsIn_wide.2 hok)).mono ?_; rintro e w1 ⟨rfl, rfl⟩)
      refine ⟨?_, ?_⟩
      · exact Stay.refl _ _
      · first | exact h2 | (show Below (g + 8) W A; rw [← hsz8]; exact h2)
  case done =>
    rintro D A hD ⟨h1, h2⟩ hK
    have h3' := rowG_b d3 h2
    have h4' := rowG_b d4 h2
    have y_0 : A.cell? ⟨g + 1 + 1 + 1, 0, none⟩ = some (.slice none 0 0) := h3'.1 0 (by simp)
    have y_1 : A.cell? ⟨g + 1 + 1 + 1, 1, none⟩ = some (.slice none 0 0) := h3'.1 1 (by simp)
    have zy_0 := h3'.2.1 0
    have zy_1 := h3'.2.1 1
    have e_0 : A.cell? ⟨g + 1 + 1 + 1 + 1, 0, none⟩ = some (.int .i64 0) := h4'.1 0 (by simp)
    have ze_0 := h4'.2.1 0
    gi_wp2
    have hDA : D < A.heap.size := (Array.getElem?_eq_some_iff.1 hK).1
    obtain ⟨Y, hY⟩ : ∃ Y, (((A.setCell ⟨g + 1 + 1 + 1, 0, none⟩ (.slice none 0 0)).setCell ⟨g + 1 + 1 + 1, 1, none⟩ (.slice none 0 0)).setCell ⟨g + 1 + 1 + 1 + 1, 0, none⟩ (.int .i64 40)) = Y := ⟨_, rfl⟩
    have s1 : Stay W.heap.size A Y := by
      rw [← hY]; repeat (first | (with_reducible exact Stay.refl _ _) | (with_reducible refine stay_cell ?_ (by omega)))
    have s2 : Below w0.heap.size w0 Y := by
      have h2' := below_trans' hB0 (Nat.le_refl _) h2
      rw [← hY]; repeat (first | (with_reducible exact h2') | (with_reducible refine sBelow ?_ (by omega)))
    have s3 : rowG #[.slice none 0 0, .slice none 0 0] Y (g + 1 + 1 + 1) := by
      rw [← hY]; exact row_other _ (row_two _ _ h3') (by omega)
    have s4 : rowG #[.int .i64 40] Y (g + 1 + 1 + 1 + 1) := by
      rw [← hY]; refine row_one (a := .int .i64 0) _ ?_
      repeat (first | (with_reducible exact h4') | (with_reducible refine row_other _ ?_ (by omega)))
    rw [hY]
    have hf : fndV x p n N i ok = .tuple #[.agg #[.slice none 0 0, .slice none 0 0], .int .i64 40] := by
      unfold fndV
      rw [if_neg]
      rintro ⟨e1, e2⟩
      rw [h1 (by omega)] at e2
      cases e2
    rw [hf]
    refine ⟨by simp, .inl ⟨_, _, rfl, run_takeDeferred ((s1.2 D hD hDA).trans hK), ?_⟩⟩
    exact ⟨_, res_find rfl _ _ (g + 1 + 1 + 1) (g + 1 + 1 + 1 + 1) _ _ _ rfl rfl (row_put _ s3 (by omega)) (row_put _ s4 (by omega)), rfl, s2.trans (below_put _ (by omega))⟩
  case stop =>
    rintro D A hD ⟨⟨h0, h1⟩, h2, h3, h4⟩ hK
    gi_wp2
    have hf : fndV x p n N i ok = .tuple #[.agg #[.slice (some ⟨x.vb, off0 (beg x.l i) (p - (rg x.l i).f) n, none⟩) n n, .slice (some ⟨x.tb, off0 (beg x.l i) (p - (rg x.l i).f) n, none⟩) n n], .int .i64 0] := by
      unfold fndV
      rw [if_pos ⟨h0, h1⟩]
    rw [hf]
    refine ⟨by simp, .inl ⟨_, _, rfl, run_takeDeferred hK, ?_⟩⟩
    exact ⟨_, res_find rfl _ _ (g + 1 + 1 + 1) (g + 1 + 1 + 1 + 1) _ _ _ rfl rfl (row_put _ h3 (by omega)) (row_put _ h4 (by omega)), rfl, h2.trans (below_put _ (by omega))⟩

theorem find_nil_fetchable (p n : Int) (w : World) : Calls Tryz.prog 43 #[.pointer none, .int .u64 p, .int .i64 n, .func (.func 88) #[] #[]] w fun e w' => e = .returned (.tuple #[.agg #[.slice none 0 0, .slice none 0 0], .int .i64 1]) ∧ Below w.heap.size w w' := by
  go_enter Tryz.func43, Tryz.ntmps43
  go_wp2
  have hr := allocs_row [(#[.int .u64 p], 39), (#[.int .i64 n], 3), (#[.func (.func 88) #[] #[]], 122), (#[.slice none 0 0, .slice none 0 0], 112), (#[.int .i64 1], 35)] w
  have d3 := hr 3 (by simp)
  have d4 := hr 4 (by simp)
  refine bodyPost_ret (res_find rfl _ _ (w.heap.size + 1 + 1 + 1) (w.heap.size + 1 + 1 + 1 + 1) _ _ _ rfl rfl d3 d4) rfl ?_
  exact ⟨rfl, allocs_below [(#[.int .u64 p], 39), (#[.int .i64 n], 3), (#[.func (.func 88) #[] #[]], 122), (#[.slice none 0 0, .slice none 0 0], 112), (#[.int .i64 1], 35)] w _ (Nat.le_refl _)⟩
set_option maxRecDepth 100000 in
set_option maxHeartbeats 2000000 in
theorem find_fetchable (x : Mm) (hx : wfL x.l) (hin : inL x.l) (hl : x.l.length ≤ 16) (hsz : ∀ j < x.l.length, (rg x.l j).s ≤ 1048576) (p n : Nat) (hp : p < 18446744073709551616) (hn : n ≤ 9223372036854775807) (N i : Nat) (hN : Hit x.l p n N i) (ok : Bool)
    (hok : ∀ W, Calls Tryz.prog 88 #[.int .u8 (rg x.l i).k] W fun e w' => e = .returned (.bool ok) ∧ W = w') (w0 : World) (hA : Ar w0 x) :
    Calls Tryz.prog 43 #[.pointer (some ⟨x.mb, 0, none⟩), .int .u64 p, .int .i64 n, .func (.func 88) #[] #[]] w0 fun e w' => e = .returned (fndV x p n N i ok) ∧ Below w0.heap.size w0 w' := by
  refine (callsIn_wide (n := 4)).1 ?_
  refine callsIn_of_wp_marks Tryz.func43 rfl trivial ?_
  simp only [Tryz.ntmps43, List.size_toArray, List.length_cons, List.length_nil, Nat.reduceAdd, Nat.reduceSub, Array.replicate_succ, Array.replicate_zero, List.push_toArray, List.append_toArray, List.nil_append, List.cons_append]
  gi_wp2_with (refine ⟨trivial, ?_⟩; gi_at_call 85; refine (callsIn_wide.2 (hold_any _ rfl p n _)).mono ?_; rintro e w' ⟨rfl, rfl⟩)
  obtain ⟨g, hg⟩ : ∃ g, w0.heap.size = g := ⟨_, rfl⟩
  obtain ⟨W, hW⟩ : ∃ W, allocs w0 [(#[.int .u64 p], 39), (#[.int .i64 n], 3), (#[.func (.func 88) #[] #[]], 122), (#[.slice none 0 0, .slice none 0 0], 112), (#[.int .i64 0], 35), (#[.pointer (some ⟨x.mb, 0, none⟩)], 30), (#[.int .u64 p], 39), (#[.int .u64 n], 39)] = W := ⟨_, rfl⟩
  have hrow := allocs_row [(#[.int .u64 p], 39), (#[.int .i64 n], 3), (#[.func (.func 88) #[] #[]], 122), (#[.slice none 0 0, .slice none 0 0], 112), (#[.int .i64 0], 35), (#[.pointer (some ⟨x.mb, 0, none⟩)], 30), (#[.int .u64 p], 39), (#[.int .u64 n], 39)] w0
  have hsz8 : W.heap.size = g + 8 := by rw [← hW, ← hg]; exact allocs_size _ _
  have hB0 : Below w0.heap.size w0 W := by rw [← hW]; exact allocs_below _ _ _ (Nat.le_refl _)
  rw [hW, hg] at hrow
  have d0 : rowG #[.int .u64 p] W g := hrow 0 (by simp)
  have d1 : rowG #[.int .i64 n] W (g + 1) := hrow 1 (by simp)
  have d2 : rowG #[.func (.func 88) #[] #[]] W (g + 1 + 1) := hrow 2 (by simp)
  have d3 : rowG #[.slice none 0 0, .slice none 0 0] W (g + 1 + 1 + 1) := hrow 3 (by simp)
  have d4 : rowG #[.int .i64 0] W (g + 1 + 1 + 1 + 1) := hrow 4 (by simp)
  have d5 : W.cell? ⟨g + 1 + 1 + 1 + 1 + 1, 0, none⟩ = some (.pointer (some ⟨x.mb, 0, none⟩)) := (hrow 5 (by simp)).1 0 (by simp)
  have d6 : W.cell? ⟨g + 1 + 1 + 1 + 1 + 1 + 1, 0, none⟩ = some (.int .u64 p) := (hrow 6 (by simp)).1 0 (by simp)
  have d7 : W.cell? ⟨g + 1 + 1 + 1 + 1 + 1 + 1 + 1, 0, none⟩ = some (.int .u64 n) := (hrow 7 (by simp)).1 0 (by simp)
  clear hrow
  have hbx : ∀ A, Below W.heap.size W A → Bx A x (g + 1 + 1 + 1 + 1 + 1) p n := fun A hb => ⟨stay hb d5, stay hb d6, stay hb d7, hA.of (below_trans' hB0 (Nat.le_refl _) hb)⟩
  have hWe : (((((((w0.alloc (.cells #[.int .u64 p] 39)).alloc (.cells #[.int .i64 n] 3)).alloc (.cells #[.func (.func 88) #[] #[]] 122)).alloc (.cells #[.slice none 0 0, .slice none 0 0] 112)).alloc (.cells #[.int .i64 0] 35)).alloc (.cells #[.pointer (some ⟨x.mb, 0, none⟩)] 30)).alloc (.cells #[.int .u64 p] 39)).alloc (.cells #[.int .u64 n] 39) = W := hW
  rw [hWe]
  clear hWe
  simp only [hg]
  have hN1 : N ≤ 1 := by rcases hN with ⟨h, _⟩ | ⟨h, _⟩ <;> omega
  refine range_n (by omega) (gf := 110) (lb := #[.pointer (some ⟨g + 1 + 1 + 1 + 1 + 1, 0, none⟩), .pointer (some ⟨g + 1 + 1 + 1 + 1 + 1 + 1, 0, none⟩), .pointer (some ⟨g + 1 + 1 + 1 + 1 + 1 + 1 + 1, 0, none⟩)]) rfl (enters_of Tryz.func110 (by kernel_rfl) rfl)
    (hold_seq x hx hin hl p n hp (by omega) (g + 1 + 1 + 1 + 1 + 1) N i hN 3 (by omega)) hbx (fun _ => rfl)
    (fun k A => (0 < k → ok = false) ∧ Below W.heap.size W A)
    (fun A => (N = 1 ∧ ok = true) ∧ Below w0.heap.size w0 A ∧ rowG #[.slice (some ⟨x.vb, off0 (beg x.l i) (p - (rg x.l i).f) n, none⟩) n n, .slice (some ⟨x.tb, off0 (beg x.l i) (p - (rg x.l i).f) n, none⟩) n n] A (g + 1 + 1 + 1) ∧ rowG #[.int .i64 0] A (g + 1 + 1 + 1 + 1))
    (fun k A ⟨_, h⟩ => hbx A h)
    (fun k A A' ⟨h1, h2⟩ hb => ⟨h1, h2.trans hb⟩)
    (fun A A' ⟨h1, h2, h3, h4⟩ hb => ⟨h1, h2.trans (hb.mono (by omega)), rowG_below h3 hb (by omega), rowG_below h4 hb (by omega)⟩)
    ⟨fun h => by omega, Below.refl _ _⟩
    (fun k a' A => ∃ Bx, W.heap.size + 2 ≤ Bx ∧ rowG #[.int .u64 (rg x.l i).f, .int .u64 (rg x.l i).s, .int .u8 (rg x.l i).k, .slice (some ⟨x.vb, beg x.l i, none⟩) (rg x.l i).s (rg x.l i).s, .slice (some ⟨x.tb, beg x.l i, none⟩) (rg x.l i).s (rg x.l i).s] A Bx ∧ a' = ⟨#[.pointer (some ⟨x.mb, 0, none⟩), .int .u64 p, .int .i64 n, .func (.func 88) #[] #[], undef, .pointer (some ⟨g, 0, none⟩), .pointer (some ⟨g + 1, 0, none⟩), .pointer (some ⟨g + 1 + 1, 0, none⟩), .pointer (some ⟨g + 1 + 1 + 1, 0, none⟩), .pointer (some ⟨g + 1 + 1 + 1 + 1, 0, none⟩), .pointer (some ⟨Bx, 0, none⟩), .pointer (some ⟨x.mb, 0, none⟩), .bool false, undef, .pointer (some ⟨x.mb, 0, none⟩), .int .u64 p, .int .i64 n, .int .u64 n, .func (.func 110) #[] #[.pointer (some ⟨g + 1 + 1 + 1 + 1 + 1, 0, none⟩), .pointer (some ⟨g + 1 + 1 + 1 + 1 + 1 + 1, 0, none⟩), .pointer (some ⟨g + 1 + 1 + 1 + 1 + 1 + 1 + 1, 0, none⟩)], .agg #[.int .u64 (rg x.l i).f, .int .u64 (rg x.l i).s, .int .u8 (rg x.l i).k, .slice (some ⟨x.vb, beg x.l i, none⟩) (rg x.l i).s (rg x.l i).s, .slice (some ⟨x.tb, beg x.l i, none⟩) (rg x.l i).s (rg x.l i).s], undef, undef, undef, undef, undef, undef, undef, undef, undef, undef, undef, undef, undef, undef, undef, undef], []⟩)
    (fun k a' A A' ⟨Bx, h1, h2, h3⟩ hs => ⟨Bx, h1, rowG_blk h2 (hs Bx h1) (by
      have e := hs Bx h1
      have := h2.2.2
      rw [Array.getElem?_eq_getElem this] at e
      exact (Array.getElem?_eq_some_iff.1 e).1), h3⟩)
    ?assign ?body ?done ?stop
  case assign =>
    intro l k A K hs hK
    simp only [arC]
    gi_wp2
    exact hK _ _ (aBelow (Below.refl _ _) _) ⟨A.heap.size, hs, rowG_new _ _ _, rfl⟩
  case body =>
    rintro l k a' A hs ⟨h1, h2⟩ ⟨Bx, hBx, hr, rfl⟩ hk
    have hki : N = 1 ∧ k = 0 := by omega
    obtain ⟨rfl, rfl⟩ := hki
    obtain ⟨hil, hhas⟩ : i < x.l.length ∧ (rg x.l i).has p n := by
      rcases hN with ⟨_, h3, h4, _⟩ | ⟨h3, _⟩
      · exact ⟨h3, h4⟩
      · omega
    obtain ⟨hf1, hf2, hf3⟩ := hhas
    have hs1 := hsz i hil
    obtain ⟨f0, s0, k0⟩ := hx i
    have q0 : A.cell? ⟨g, 0, none⟩ = some (.int .u64 p) := stay h2 (d0.1 0 (by simp))
    have q1 : A.cell? ⟨g + 1, 0, none⟩ = some (.int .i64 n) := stay h2 (d1.1 0 (by simp))
    have q2 : A.cell? ⟨g + 1 + 1, 0, none⟩ = some (.func (.func 88) #[] #[]) := stay h2 (d2.1 0 (by simp))
    have c_0 : A.cell? ⟨Bx, 0, none⟩ = some (.int .u64 (rg x.l i).f) := hr.1 0 (by simp)
    have c_1 : A.cell? ⟨Bx, 1, none⟩ = some (.int .u64 (rg x.l i).s) := hr.1 1 (by simp)
    have c_2 : A.cell? ⟨Bx, 2, none⟩ = some (.int .u8 (rg x.l i).k) := hr.1 2 (by simp)
    have c_3 : A.cell? ⟨Bx, 3, none⟩ = some (.slice (some ⟨x.vb, beg x.l i, none⟩) (rg x.l i).s (rg x.l i).s) := hr.1 3 (by simp)
    have c_4 : A.cell? ⟨Bx, 4, none⟩ = some (.slice (some ⟨x.tb, beg x.l i, none⟩) (rg x.l i).s (rg x.l i).s) := hr.1 4 (by simp)
    have hok := hok A
    cases ok with
    | true =>
      have h3' := rowG_b d3 h2
      have h4' := rowG_b d4 h2
      have y_0 : A.cell? ⟨g + 1 + 1 + 1, 0, none⟩ = some (.slice none 0 0) := h3'.1 0 (by simp)
      have y_1 : A.cell? ⟨g + 1 + 1 + 1, 1, none⟩ = some (.slice none 0 0) := h3'.1 1 (by simp)
      have zy_0 := h3'.2.1 0
      have zy_1 := h3'.2.1 1
      have e_0 : A.cell? ⟨g + 1 + 1 + 1 + 1, 0, none⟩ = some (.int .i64 0) := h4'.1 0 (by simp)
      have ze_0 := h4'.2.1 0
      have hP := part_any x.vb x.tb (beg x.l i) (beg x.l i) (rg x.l i).s (rg x.l i).s (rg x.l i).s (rg x.l i).s (p - (rg x.l i).f) n (by omega) (by omega) (by omega) A
      have hsb := sub64 p (rg x.l i).f hf1 hp
      gi_wp2_with (refine ⟨trivial, ?_⟩; first | (gi_at_call 88; with_reducible refine (CallsIn.inRound l (callsIn_wide.2 hok)).mono ?_; rintro e w1 ⟨rfl, rfl⟩) | (gi_at_call 42; refine (CallsIn.inRound l (callsIn_wide.2 hP)).mono ?_; (rintro e w1 ⟨rfl, hb1⟩); have h3'' := rowG_b h3' hb1; have h4'' := rowG_b h4' hb1; have y_0' : w1.cell? ⟨g + 1 + 1 + 1, 0, none⟩ = some (.slice none 0 0) := h3''.1 0 (by simp); have y_1' : w1.cell? ⟨g + 1 + 1 + 1, 1, none⟩ = some (.slice none 0 0) := h3''.1 1 (by simp); have zy_0' := h3''.2.1 0; have zy_1' := h3''.2.1 1; have e_0' : w1.cell? ⟨g + 1 + 1 + 1 + 1, 0, none⟩ = some (.int .i64 0) := h4''.1 0 (by simp); have ze_0' := h4''.2.1 0))
      have h2' := below_trans' (below_trans' hB0 (Nat.le_refl _) h2) (Nat.le_refl _) hb1
      have h2g : Below g w0 w1 := by rw [← hg]; exact h2'
      refine ⟨?_, ?_, ?_, ?_⟩
      · repeat (first | (with_reducible exact stay_of_below hb1) | (with_reducible refine stay_cell ?_ (by omega)))
      · repeat (first | (with_reducible exact h2') | (with_reducible exact h2g) | (with_reducible refine sBelow ?_ (by omega)))
      · exact row_other _ (row_two _ _ h3'') (by omega)
      · refine row_one (a := .int .i64 0) _ ?_
        repeat (first | (with_reducible exact h4'') | (with_reducible refine row_other _ ?_ (by omega)))
    | false =>
      gi_wp2_with (refine ⟨trivial, ?_⟩; gi_at_call 88; refine (CallsIn.inRound l (callsIn_wide.2 hok)).mono ?_; rintro e w1 ⟨rfl, rfl⟩)
      refine ⟨?_, ?_⟩
      · exact Stay.refl _ _
      · first | exact h2 | (show Below (g + 8) W A; rw [← hsz8]; exact h2)
  case done =>
    rintro D A hD ⟨h1, h2⟩ hK
    have h3' := rowG_b d3 h2
    have h4' := rowG_b d4 h2
    have y_0 : A.cell? ⟨g + 1 + 1 + 1, 0, none⟩ = some (.slice none 0 0) := h3'.1 0 (by simp)
    have y_1 : A.cell? ⟨g + 1 + 1 + 1, 1, none⟩ = some (.slice none 0 0) := h3'.1 1 (by simp)
    have zy_0 := h3'.2.1 0
    have zy_1 := h3'.2.1 1
    have e_0 : A.cell? ⟨g + 1 + 1 + 1 + 1, 0, none⟩ = some (.int .i64 0) := h4'.1 0 (by simp)
    have ze_0 := h4'.2.1 0
    gi_wp2
    have hDA : D < A.heap.size := (Array.getElem?_eq_some_iff.1 hK).1
    obtain ⟨Y, hY⟩ : ∃ Y, (((A.setCell ⟨g + 1 + 1 + 1, 0, none⟩ (.slice none 0 0)).setCell ⟨g + 1 + 1 + 1, 1, none⟩ (.slice none 0 0)).setCell ⟨g + 1 + 1 + 1 + 1, 0, none⟩ (.int .i64 40)) = Y := ⟨_, rfl⟩
    have s1 : Stay W.heap.size A Y := by
      rw [← hY]; repeat (first | (with_reducible exact Stay.refl _ _) | (with_reducible refine stay_cell ?_ (by omega)))
    have s2 : Below w0.heap.size w0 Y := by
      have h2' := below_trans' hB0 (Nat.le_refl _) h2
      rw [← hY]; repeat (first | (with_reducible exact h2') | (with_reducible refine sBelow ?_ (by omega)))
    have s3 : rowG #[.slice none 0 0, .slice none 0 0] Y (g + 1 + 1 + 1) := by
      rw [← hY]; exact row_other _ (row_two _ _ h3') (by omega)
    have s4 : rowG #[.int .i64 40] Y (g + 1 + 1 + 1 + 1) := by
      rw [← hY]; refine row_one (a := .int .i64 0) _ ?_
      repeat (first | (with_reducible exact h4') | (with_reducible refine row_other _ ?_ (by omega)))
    rw [hY]
    have hf : fndV x p n N i ok = .tuple #[.agg #[.slice none 0 0, .slice none 0 0], .int .i64 40] := by
      unfold fndV
      rw [if_neg]
      rintro ⟨e1, e2⟩
      rw [h1 (by omega)] at e2
      cases e2
    rw [hf]
    refine ⟨by simp, .inl ⟨_, _, rfl, run_takeDeferred ((s1.2 D hD hDA).trans hK), ?_⟩⟩
    exact ⟨_, res_find rfl _ _ (g + 1 + 1 + 1) (g + 1 + 1 + 1 + 1) _ _ _ rfl rfl (row_put _ s3 (by omega)) (row_put _ s4 (by omega)), rfl, s2.trans (below_put _ (by omega))⟩
  case stop =>
    rintro D A hD ⟨⟨h0, h1⟩, h2, h3, h4⟩ hK
    gi_wp2
    have hf : fndV x p n N i ok = .tuple #[.agg #[.slice (some ⟨x.vb, off0 (beg x.l i) (p - (rg x.l i).f) n, none⟩) n n, .slice (some ⟨x.tb, off0 (beg x.l i) (p - (rg x.l i).f) n, none⟩) n n], .int .i64 0] := by
      unfold fndV
      rw [if_pos ⟨h0, h1⟩]
    rw [hf]
    refine ⟨by simp, .inl ⟨_, _, rfl, run_takeDeferred hK, ?_⟩⟩
    exact ⟨_, res_find rfl _ _ (g + 1 + 1 + 1) (g + 1 + 1 + 1 + 1) _ _ _ rfl rfl (row_put _ h3 (by omega)) (row_put _ h4 (by omega)), rfl, h2.trans (below_put _ (by omega))⟩

end Go.Proofs.YtfaacmcnefbgcaaGreatDoor.m4
