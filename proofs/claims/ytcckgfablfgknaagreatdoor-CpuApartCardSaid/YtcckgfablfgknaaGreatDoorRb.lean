/- A machine of a setup: its state in plain numbers; contract of cpu.New. -/
import Derived.Test.YtcckgfablfgknaaGreatDoorQz
import Derived.Test.YtcckgfablfgknaaGreatDoorRa
import Derived.Test.YtcckgfablfgknaaGreatDoorQl
namespace Go.Proofs.YtcckgfablfgknaaGreatDoor.m4
open Go.ChangeShapes Go.WideShapes Go.ChangeAt Go.RowKit
set_option linter.unusedVariables false
theorem seO_eq {l : List Rg} (hl : MayL l) {p n i : Nat} (hi : i < l.length) (h : (rg l i).has p n) : seO l p n = some (pos l i p n) := by
  unfold seO; rw [hit_eq hl hi h]
theorem hit_code {n : Nat} (hn : n ≤ 200) {p m : Nat} (h0 : 4096 ≤ p) (h1 : p < 4100 + 4 * n) (h2 : p + m ≤ 4100 + 4 * n) : hitI (rgs n) p m = some 0 := by
  refine hit_eq (rgs_may n hn) (by rw [rgs_len]; omega) ?_
  show (4096 : Nat) ≤ p ∧ p < 4096 + (4 * n + 4) ∧ m ≤ 4096 + (4 * n + 4) - p
  omega
theorem hit_in {n : Nat} (hn : n ≤ 200) {p m : Nat} (h0 : 1048576 ≤ p) (h1 : p < 1048832) (h2 : p + m ≤ 1048832) : hitI (rgs n) p m = some 1 := by
  refine hit_eq (rgs_may n hn) (by rw [rgs_len]; omega) ?_
  show (1048576 : Nat) ≤ p ∧ p < 1048576 + 256 ∧ m ≤ 1048576 + 256 - p
  omega
theorem hit_arena {n : Nat} (hn : n ≤ 200) {p m : Nat} (h0 : 2097152 ≤ p) (h1 : p < 2097408) (h2 : p + m ≤ 2097408) : hitI (rgs n) p m = some 2 := by
  refine hit_eq (rgs_may n hn) (by rw [rgs_len]; omega) ?_
  show (2097152 : Nat) ≤ p ∧ p < 2097152 + 256 ∧ m ≤ 2097152 + 256 - p
  omega
theorem seE_code (n : Nat) (hn : n ≤ 200) : seE (rgs n) 4096 (4 * n) = 0 := by
  unfold seE seO; rw [hit_code hn (by omega) (by omega) (by omega)]; rfl
theorem plN_in (k a : Nat) (h : k % 2 = 0) : 1048576 ≤ plN k a ∧ plN k a < 1048832 := by unfold plN; rw [if_pos h]; omega
theorem plN_arena (k a : Nat) (h : ¬ k % 2 = 0) : 2097152 ≤ plN k a ∧ plN k a < 2097408 := by unfold plN; rw [if_neg h]; omega
theorem seE_place (n : Nat) (hn : n ≤ 200) (k a : Nat) : seE (rgs n) (plN k a) 1 = 0 := by
  unfold seE seO
  by_cases h : k % 2 = 0
  · obtain ⟨h1, h2⟩ := plN_in k a h
    rw [hit_in hn h1 h2 (by omega)]; rfl
  · obtain ⟨h1, h2⟩ := plN_arena k a h
    rw [hit_arena hn h1 h2 (by omega)]; rfl
/-- The bytes of a machine: those of its code, of what is laid then. -/
def Su.cdB (x : Su) : Nat → Nat := upO (seO (rgs x.l1.length) 4096 (4 * x.l1.length)) (fun _ => 0) (4 * x.l1.length) (bAt (strOfNums (cdN x.l1)))
def Su.cdT (x : Su) : Nat → Bool := upO (seO (rgs x.l1.length) 4096 (4 * x.l1.length)) (fun _ => false) (4 * x.l1.length) fun _ => false
def s1 (c : Ce) : ByteArray := strOfNums [((c.v % 256 : Nat) : Int)]
def Su.byB (x : Su) : Nat → Nat → Nat
  | 0 => x.cdB
  | k + 1 => upO (seO (rgs x.l1.length) (plN k (cg x.l3 k).a) 1) (x.byB k) 1 (bAt (s1 (cg x.l3 k)))
def Su.byT (x : Su) : Nat → Nat → Bool
  | 0 => x.cdT
  | k + 1 => upO (seO (rgs x.l1.length) (plN k (cg x.l3 k).a) 1) (x.byT k) 1 fun _ => (cg x.l3 k).t
def ms0 (bv : Nat → Nat) (tv : Nat → Bool) : Ms := ⟨fun _ => 0, fun _ => false, 4096, [], [], false, 0, 0, bv, tv⟩
def Su.rgM (x : Su) : Nat → Ms
  | 0 => ms0 (x.byB x.l3.length) (x.byT x.l3.length)
  | k + 1 => (x.rgM k).lay ((cg x.l2 k).a % 32) (cg x.l2 k).v (cg x.l2 k).t
/-- A setup's machine. -/
def Su.ms (x : Su) : Ms := x.rgM x.l2.length
theorem s1_size (c : Ce) : (s1 c).size = 1 := by unfold s1; rw [strOfNums_size]; rfl
theorem conv1b (v : Nat) (W : World) : (convert 92 9 (.slice (some ⟨W.heap.size, 0, none⟩) 1 1)).run Tryz.prog (W.alloc (.cells #[.int .u8 ((v % 256 : Nat) : Int)] 5)) = .ok (.string (strOfNums [((v % 256 : Nat) : Int)])) (W.alloc (.cells #[.int .u8 ((v % 256 : Nat) : Int)] 5)) := by
  refine run_convert_bytes_arg (P := Tryz.prog) _ 92 5 Tryz.underlying92 Tryz.underlying5 W.heap.size 0 1 1 [((v % 256 : Nat) : Int)] rfl ?_ 9 Tryz.underlying9
  intro i hi
  obtain rfl : i = 0 := by omega
  rw [nwc]; rfl
theorem ms0_ok {bv : Nat → Nat} {tv : Nat → Bool} (h : ∀ k, bv k < 256) : (ms0 bv tv).ok := ⟨fun _ => by show (0 : Nat) < _; omega, rfl, rfl, by show (4096 : Nat) < _; omega, by show (0 : Nat) < _; omega, by show (0 : Nat) ≤ _; omega, h⟩
def newC (p : Value) : Array Value := #[p, .int .u64 0, .bool false, .int .u64 0, .bool false, .int .u64 0, .bool false, .int .u64 0, .bool false, .int .u64 0, .bool false, .int .u64 0, .bool false, .int .u64 0, .bool false, .int .u64 0, .bool false, .int .u64 0, .bool false, .int .u64 0, .bool false, .int .u64 0, .bool false, .int .u64 0, .bool false, .int .u64 0, .bool false, .int .u64 0, .bool false, .int .u64 0, .bool false, .int .u64 0, .bool false, .int .u64 0, .bool false, .int .u64 0, .bool false, .int .u64 0, .bool false, .int .u64 0, .bool false, .int .u64 0, .bool false, .int .u64 0, .bool false, .int .u64 0, .bool false, .int .u64 0, .bool false, .int .u64 0, .bool false, .int .u64 0, .bool false, .int .u64 0, .bool false, .int .u64 0, .bool false, .int .u64 0, .bool false, .int .u64 0, .bool false, .int .u64 0, .bool false, .int .u64 0, .bool false, .int .u64 4096, .slice none 0 0, .slice none 0 0, .bool false, .int .u8 0, .int .i64 0]
theorem newC_v (p : Value) (i : Nat) (h : i < 32) : (newC p)[1 + i * 2]? = some (.int .u64 0) := by
  have key : ∀ i < 32, ∀ p : Value, (newC p)[1 + i * 2]? = some (.int .u64 0) := by
    intro i hi p
    match i, hi with
    | 0, _ => exact rfl
    | 1, _ => exact rfl
    | 2, _ => exact rfl
    | 3, _ => exact rfl
    | 4, _ => exact rfl
    | 5, _ => exact rfl
    | 6, _ => exact rfl
    | 7, _ => exact rfl
    | 8, _ => exact rfl
    | 9, _ => exact rfl
    | 10, _ => exact rfl
    | 11, _ => exact rfl
    | 12, _ => exact rfl
    | 13, _ => exact rfl
    | 14, _ => exact rfl
    | 15, _ => exact rfl
    | 16, _ => exact rfl
    | 17, _ => exact rfl
    | 18, _ => exact rfl
    | 19, _ => exact rfl
    | 20, _ => exact rfl
    | 21, _ => exact rfl
    | 22, _ => exact rfl
    | 23, _ => exact rfl
    | 24, _ => exact rfl
    | 25, _ => exact rfl
    | 26, _ => exact rfl
    | 27, _ => exact rfl
    | 28, _ => exact rfl
    | 29, _ => exact rfl
    | 30, _ => exact rfl
    | 31, _ => exact rfl
    | n + 32, h => exact absurd h (by omega)
  exact key i h p
theorem newC_t (p : Value) (i : Nat) (h : i < 32) : (newC p)[1 + i * 2 + 1]? = some (.bool false) := by
  have key : ∀ i < 32, ∀ p : Value, (newC p)[1 + i * 2 + 1]? = some (.bool false) := by
    intro i hi p
    match i, hi with
    | 0, _ => exact rfl
    | 1, _ => exact rfl
    | 2, _ => exact rfl
    | 3, _ => exact rfl
    | 4, _ => exact rfl
    | 5, _ => exact rfl
    | 6, _ => exact rfl
    | 7, _ => exact rfl
    | 8, _ => exact rfl
    | 9, _ => exact rfl
    | 10, _ => exact rfl
    | 11, _ => exact rfl
    | 12, _ => exact rfl
    | 13, _ => exact rfl
    | 14, _ => exact rfl
    | 15, _ => exact rfl
    | 16, _ => exact rfl
    | 17, _ => exact rfl
    | 18, _ => exact rfl
    | 19, _ => exact rfl
    | 20, _ => exact rfl
    | 21, _ => exact rfl
    | 22, _ => exact rfl
    | 23, _ => exact rfl
    | 24, _ => exact rfl
    | 25, _ => exact rfl
    | 26, _ => exact rfl
    | 27, _ => exact rfl
    | 28, _ => exact rfl
    | 29, _ => exact rfl
    | 30, _ => exact rfl
    | 31, _ => exact rfl
    | n + 32, h => exact absurd h (by omega)
  exact key i h p
theorem new_arg (pc : Nat) (w : World) : Calls Tryz.prog 31 #[.pointer none, .int .u64 pc] w fun e w' => e = .returned (.tuple #[.pointer none, .int .i64 2]) ∧ w = w' := by
  go_enter Tryz.func31, Tryz.ntmps31
  go_wp2
  go_ret2
  exact ⟨rfl, rfl⟩
set_option maxRecDepth 100000 in
theorem new_mach {w : World} {x : Mm} {bv : Nat → Nat} {tv : Nat → Bool} (h : IsM w x bv tv) (hl : x.mb < w.heap.size ∧ x.ab < w.heap.size) : Calls Tryz.prog 31 #[.pointer (some ⟨x.mb, 0, none⟩), .int .u64 4096] w fun e w' => e = .returned (.tuple #[.pointer (some ⟨w.heap.size, 0, none⟩), .int .i64 0]) ∧ IsC w' ⟨w.heap.size, x, .slice none 0 0, .slice none 0 0⟩ (ms0 bv tv) ∧ Below w.heap.size w w' := by
  go_enter Tryz.func31, Tryz.ntmps31
  go_wp2
  go_ret2
  have hB := aBelow (Below.refl w.heap.size w) (.cells (newC (.pointer (some ⟨x.mb, 0, none⟩))) 100)
  have hc := fun o => nwc w (newC (.pointer (some ⟨x.mb, 0, none⟩))) 100 o
  have hf := fun o => nwf w (newC (.pointer (some ⟨x.mb, 0, none⟩))) 100 o
  have hm := h.of hB
  have e1 : x.vb < w.heap.size := h.lv
  have e2 : x.tb < w.heap.size := h.lt
  refine ⟨rfl, ?_, hB⟩
  exact { c0 := hc 0, rv := fun i hi => (hc _).trans (newC_v _ i hi), rt := fun i hi => (hc _).trans (newC_t _ i hi), c65 := hc 65, c66 := hc 66, c67 := hc 67, c68 := hc 68, c69 := hc 69, c70 := hc 70, fz := hf, lt := by rw [World.size_alloc]; exact Nat.lt_succ_self _, rowT := World.ownsRow_nil _ _ _ _, rowR := World.ownsRow_nil _ _ _ _, mem := hm, n1 := ⟨by show w.heap.size ≠ x.mb; omega, by show w.heap.size ≠ x.ab; omega, by show w.heap.size ≠ x.vb; omega, by show w.heap.size ≠ x.tb; omega⟩, n2 := fun j hj => (by cases hj), n3 := fun j hj => (by cases hj), n4 := fun j hj => (by cases hj), ok := ms0_ok h.b8 }
end Go.Proofs.YtcckgfablfgknaaGreatDoor.m4

/- Contract of Built: a machine of a setup. -/
namespace Go.Proofs.YtcckgfablfgknaaGreatDoor.m4
open Go.ChangeShapes Go.WideShapes Go.ChangeAt Go.RowKit
set_option linter.unusedVariables false
theorem convG (v b : Nat) (W : World) (h : W.cell? ⟨b, 0, none⟩ = some (.int .u8 ((v : Int) % 256))) : (convert 92 9 (.slice (some ⟨b, 0, none⟩) 1 1)).run Tryz.prog W = .ok (.string (strOfNums [((v % 256 : Nat) : Int)])) W := by
  refine run_convert_bytes_arg (P := Tryz.prog) _ 92 5 Tryz.underlying92 Tryz.underlying5 b 0 1 1 [((v % 256 : Nat) : Int)] rfl ?_ 9 Tryz.underlying9
  intro i hi
  obtain rfl : i = 0 := by omega
  rw [show 0 + 0 = 0 from rfl, h]; rfl
theorem byB_lt (x : Su) : ∀ k i, x.byB k i < 256
  | 0, i => upO_b8 (fun _ => by omega) (bAt_lt _) i
  | k + 1, i => upO_b8 (byB_lt x k) (bAt_lt _) i
/-- What Built leaves. -/
def BtP (w : World) (x : Su) (e : Ending) (w' : World) : Prop := (∃ M : Mc, e = .returned (.tuple #[.pointer (some ⟨M.cb, 0, none⟩), .pointer (some ⟨M.x.mb, 0, none⟩)]) ∧ M.x.l = rgs x.l1.length ∧ IsC w' M x.ms ∧ ∀ j, M.all j → w.heap.size ≤ j) ∧ Below w.heap.size w w'

set_option maxRecDepth 100000 in
set_option maxHeartbeats 4000000 in
theorem built_any (x : Su) (hx : x.small) (w : World) (h : SuIn w x) : Calls Tryz.prog 10 #[x.val] w (BtP w x) := by
  obtain ⟨hx1, hx2, hx3⟩ := hx
  obtain ⟨wb, hwb⟩ : ∃ wb, w.alloc (.cells #[.slice x.a1 x.l1.length x.c1, .slice x.a2 x.l2.length x.c2, .slice x.a3 x.l3.length x.c3] 25) = wb := ⟨_, rfl⟩
  have hBb : Below w.heap.size w wb := by rw [← hwb]; exact aBelow (Below.refl _ _) _
  have hsz : wb.heap.size = w.heap.size + 1 := by rw [← hwb, World.size_alloc]
  have g0 : wb.cell? ⟨w.heap.size, 0, none⟩ = some (.slice x.a1 x.l1.length x.c1) := by rw [← hwb]; exact nwc _ _ _ _
  have g1 : wb.cell? ⟨w.heap.size, 1, none⟩ = some (.slice x.a2 x.l2.length x.c2) := by rw [← hwb]; exact nwc _ _ _ _
  have g2 : wb.cell? ⟨w.heap.size, 2, none⟩ = some (.slice x.a3 x.l3.length x.c3) := by rw [← hwb]; exact nwc _ _ _ _
  have hS := h.of hBb
  have hR := regions_any x hx1
  have hz : (strOfNums (cdN x.l1)).size = 4 * x.l1.length := by rw [strOfNums_size, cdN_length]
  unfold Su.val at hR ⊢
  go_enter Tryz.func10, Tryz.ntmps10
  go_wp2_with (first
    | (go_at_call 33; (with_reducible refine (hR _).mono ?_); (rintro e w1 ⟨⟨g, rfl, hrow, hg1, hg2⟩, hb1⟩); have hN := new_yes (rgs x.l1.length) (rgs_may _ hx1) (rgs_wf _ hx1) g 0 3 (Nat.le_refl 3) w1 hrow hg2; rw [rgs_len] at hN)
    | (go_at_call 32; (with_reducible refine hN.mono ?_); (rintro e w2 ⟨⟨y, rfl, hyl, hI, y1, y2, y3, y4⟩, hb2⟩); have hB2 := below_trans' hb1 (Nat.le_refl _) hb2; have hs1 := hb1.size; have hCd := code_any x.l1 x.a1 x.c1 hx1 h.w1 w2 (hS.i1.of hB2); have g0 := stay hB2 g0; have g1 := stay hB2 g1; have g2 := stay hB2 g2)
    | (go_at_call 35; (with_reducible refine hCd.mono ?_); (rintro e w3 ⟨rfl, hb3⟩); have hSt := set_any 4096 (strOfNums (cdN x.l1)) (by omega) false (by omega) w3 (hI.of hb3); rw [hz, hyl, seE_code _ hx1, show ((4096 : Nat) : Int) = 4096 from rfl] at hSt)
    | (go_at_call 34; (with_reducible refine hSt.mono ?_); (rintro e w4 ⟨rfl, hI4, ho4⟩)))
  have hO4 : Only (fun j => j = y.vb ∨ j = y.tb) w2 w4 := (only_below hb3).trans ho4
  have hlow : ∀ W, Only (fun j => j = y.vb ∨ j = y.tb) w2 W → Below wb.heap.size wb W := fun W hO => hB2.trans (hO.below (fun j hj => by rcases hj with rfl | rfl <;> omega) (by have := hB2.size; omega))
  clear hR hN hCd hSt hrow
  have hlv := hI.lv
  have hlt := hI.lt
  go_loopw [6] (fun i wr => ∃ k : Nat, i = .int .i64 k ∧ k ≤ x.l3.length ∧ IsM wr y (x.byB k) (x.byT k) ∧ Only (fun j => j = y.vb ∨ j = y.tb) w2 wr) (fun i _ => x.l3.length - (intOf i).toNat)
  case atStart => exact ⟨0, rfl, Nat.zero_le _, hI4, hO4⟩
  case round =>
    obtain ⟨k, rfl, hk, hIr, hOr⟩ := hrel
    have hBr := hlow _ hOr
    have q0 := hOr.cell (a := ⟨w.heap.size, 0, none⟩) (by rintro (e | e) <;> (simp only at e; omega)) g0
    have q1 := hOr.cell (a := ⟨w.heap.size, 1, none⟩) (by rintro (e | e) <;> (simp only at e; omega)) g1
    have q2 := hOr.cell (a := ⟨w.heap.size, 2, none⟩) (by rintro (e | e) <;> (simp only at e; omega)) g2
    by_cases hlt3 : k < x.l3.length
    · obtain ⟨b, o, ha3, c0, c1, c2⟩ := hS.i3 k hlt3
      rw [ha3] at g2 q2
      clear ha3
      have d0 := c0
      have d1 := c1
      have d2 := c2
      have c0 := stay hBr c0
      have c1 := stay hBr c1
      have c2 := stay hBr c2
      have hcw := hS.w3 k
      have hP := place_any5 k (cg x.l3 k) hcw
      have i0 : (0 : Int) ≤ (k : Int) := by omega
      have i1 : (k : Int) < (x.l3.length : Int) := by omega
      have hpl := plN_lt k (cg x.l3 k).a
      have hsp := seE_place x.l1.length hx1 k (cg x.l3 k).a
      have hSe : ∀ W, Below wr.heap.size wr W → Calls Tryz.prog 34 #[.pointer (some ⟨y.mb, 0, none⟩), .int .u64 (plN k (cg x.l3 k).a : Nat), .string (s1 (cg x.l3 k)), .bool (cg x.l3 k).t] W fun e w' => e = .returned (.int .i64 0) ∧ Wrt y (x.byB (k + 1)) (x.byT (k + 1)) W w' := fun W hB => by
        have := set_any (plN k (cg x.l3 k).a) (s1 (cg x.l3 k)) (by rw [s1_size]; omega) (cg x.l3 k).t hpl W (hIr.of hB)
        rw [s1_size, hyl, hsp] at this
        exact this
      unfold s1 at hSe
      obtain ⟨c, hc⟩ : ∃ c, cg x.l3 k = c := ⟨_, rfl⟩
      simp only [hc] at hSe c0 c1 c2 d0 d1 d2 hP hcw hpl
      have e8 : ((c.v % 256 : Nat) : Int) = (c.v : Int) % 256 := by omega
      simp only [e8] at hSe
      have v8 : IntKind.u8.wrap (c.v : Int) = ((c.v % 256 : Nat) : Int) := by rw [IntKind.wrap_u8]; omega
      obtain ⟨F, hFd⟩ : ∃ F : World → Prop, F = fun w' : World => (w'.cell? ⟨w.heap.size, 2, none⟩ = some (.slice (some ⟨b, o, none⟩) x.l3.length x.c3) ∧ w'.cell? ⟨b, o + k * 3, none⟩ = some (.int .u8 (c.a : Nat)) ∧ w'.cell? ⟨b, o + k * 3 + 1, none⟩ = some (.int .u64 (c.v : Nat)) ∧ w'.cell? ⟨b, o + k * 3 + 2, none⟩ = some (.bool c.t)) := ⟨_, rfl⟩
      have hFi : ∀ w', F w' ↔ (w'.cell? ⟨w.heap.size, 2, none⟩ = some (.slice (some ⟨b, o, none⟩) x.l3.length x.c3) ∧ w'.cell? ⟨b, o + k * 3, none⟩ = some (.int .u8 (c.a : Nat)) ∧ w'.cell? ⟨b, o + k * 3 + 1, none⟩ = some (.int .u64 (c.v : Nat)) ∧ w'.cell? ⟨b, o + k * 3 + 2, none⟩ = some (.bool c.t)) := fun w' => by rw [hFd]
      clear hFd
      have hF0 : F wr.drew := (hFi _).2 ⟨q2, c0, c1, c2⟩
      have hFb : ∀ W, Below wr.heap.size wr W → F W := fun W hB => (hFi _).2 ⟨stay hB q2, stay hB c0, stay hB c1, stay hB c2⟩
      have hFo : ∀ W, Only (fun j => j = y.vb ∨ j = y.tb) w2 W → F W := fun W hO => (hFi _).2 ⟨hO.cell (a := ⟨w.heap.size, 2, none⟩) (by rintro (e | e) <;> (simp only at e; omega)) g2, stay (hlow _ hO) d0, stay (hlow _ hO) d1, stay (hlow _ hO) d2⟩
      go_wp2
      refine region_KN F (by kernel_rfl) ?_
      refine wpAnyK_take (i := 0) rfl (by kernel_rfl) (by kernel_rfl) (by kernel_rfl) (onlyN_panic _) hF0 (fun K hK => ?_)
      apply Exists.intro
      refine ⟨Or.inl ⟨by kernel_rfl, fun w' hf => ?_⟩, ?_⟩
      · obtain ⟨s2, s30, s31, s32⟩ := (hFi _).1 hf
        go_simp
        try exact rfl
      go_simp
      refine hK _ ?_
      clear hK K
      refine wpAnyK_take (i := 1) rfl (by kernel_rfl) (by kernel_rfl) (by kernel_rfl) (onlyN_panic _) hF0 (fun K hK => ?_)
      apply Exists.intro
      refine ⟨Or.inl ⟨by kernel_rfl, fun w' hf => ?_⟩, ?_⟩
      · obtain ⟨s2, s30, s31, s32⟩ := (hFi _).1 hf
        go_simp
        try exact rfl
      go_simp
      refine hK _ ?_
      clear hK K
      refine wpAnyK_take (i := 2) rfl (by kernel_rfl) (by kernel_rfl) (by kernel_rfl) (onlyN_panic _) hF0 (fun K hK => ?_)
      apply Exists.intro
      refine ⟨Or.inl ⟨by kernel_rfl, fun w' hf => ?_⟩, ?_⟩
      · obtain ⟨s2, s30, s31, s32⟩ := (hFi _).1 hf
        go_simp
        try exact rfl
      go_simp
      refine hK _ ?_
      clear hK K
      refine wpAnyK_take (i := 3) rfl (by kernel_rfl) (by kernel_rfl) (by kernel_rfl) (onlyN_panic _) hF0 (fun K hK => ?_)
      apply Exists.intro
      refine ⟨Or.inl ⟨by kernel_rfl, fun w' hf => ?_⟩, ?_⟩
      · obtain ⟨s2, s30, s31, s32⟩ := (hFi _).1 hf
        go_simp
        try exact rfl
      go_simp
      refine hK _ ?_
      clear hK K
      refine wpAnyK_take (i := 4) rfl (by kernel_rfl) (by kernel_rfl) (by kernel_rfl) (onlyN_panic _) hF0 (fun K hK => ?_)
      apply Exists.intro
      refine ⟨Or.inl ⟨by kernel_rfl, fun w' hf => ?_⟩, ?_⟩
      · obtain ⟨s2, s30, s31, s32⟩ := (hFi _).1 hf
        go_simp
        try exact rfl
      go_simp
      refine hK _ ?_
      clear hK K
      refine wpAnyK_take (i := 5) rfl (by kernel_rfl) (by kernel_rfl) (by kernel_rfl) (onlyN_panic _) hF0 (fun K hK => ?_)
      apply Exists.intro
      refine ⟨Or.inl ⟨by kernel_rfl, fun w' hf => ?_⟩, ?_⟩
      · obtain ⟨s2, s30, s31, s32⟩ := (hFi _).1 hf
        go_simp
        try exact rfl
      go_simp
      refine hK _ ?_
      clear hK K
      refine wpAnyK_take (i := 6) rfl (by kernel_rfl) (by kernel_rfl) (by kernel_rfl) (onlyN_panic _) hF0 (fun K hK => ?_)
      apply Exists.intro
      refine ⟨Or.inl ⟨by kernel_rfl, fun w' hf => ?_⟩, ?_⟩
      · obtain ⟨s2, s30, s31, s32⟩ := (hFi _).1 hf
        go_simp
        try exact rfl
      go_simp
      refine hK _ ?_
      clear hK K
      refine wpAnyK_take (i := 8) rfl (by kernel_rfl) (by kernel_rfl) (by kernel_rfl) (onlyN_panic _) hF0 (fun K hK => ?_)
      apply Exists.intro
      refine ⟨Or.inl ⟨by kernel_rfl, fun w' hf => ?_⟩, ?_⟩
      · obtain ⟨s2, s30, s31, s32⟩ := (hFi _).1 hf
        go_simp
        try exact rfl
      go_simp
      refine hK _ ?_
      clear hK K
      refine wpAnyK_take (i := 9) rfl (by kernel_rfl) (by kernel_rfl) (by kernel_rfl) (onlyN_panic _) hF0 (fun K hK => ?_)
      apply Exists.intro
      refine ⟨Or.inl ⟨by kernel_rfl, fun w' hf => ?_⟩, ?_⟩
      · obtain ⟨s2, s30, s31, s32⟩ := (hFi _).1 hf
        go_simp
        try exact rfl
      go_simp
      refine hK _ ?_
      clear hK K
      refine wpAnyK_take (i := 10) rfl (by kernel_rfl) (by kernel_rfl) (by kernel_rfl) (onlyN_panic _) hF0 (fun K hK => ?_)
      apply Exists.intro
      refine ⟨Or.inl ⟨by kernel_rfl, fun w' hf => ?_⟩, ?_⟩
      · obtain ⟨s2, s30, s31, s32⟩ := (hFi _).1 hf
        go_simp
        try exact rfl
      go_simp
      refine hK _ ?_
      clear hK K
      refine wpAnyK_take (i := 11) rfl (by kernel_rfl) (by kernel_rfl) (by kernel_rfl) (onlyN_panic _) hF0 (fun K hK => ?_)
      apply Exists.intro
      refine ⟨Or.inl ⟨by kernel_rfl, fun w' hf => ?_⟩, ?_⟩
      · obtain ⟨s2, s30, s31, s32⟩ := (hFi _).1 hf
        go_simp
        try exact rfl
      go_simp
      refine hK _ ?_
      clear hK K
      refine wpAnyK_take (i := 12) rfl (by kernel_rfl) (by kernel_rfl) (by kernel_rfl) (onlyN_panic _) hF0 (fun K hK => ?_)
      apply Exists.intro
      refine ⟨Or.inl ⟨by kernel_rfl, fun w' hf => ?_⟩, ?_⟩
      · obtain ⟨s2, s30, s31, s32⟩ := (hFi _).1 hf
        go_simp
        try exact rfl
      go_simp
      refine hK _ ?_
      clear hK K
      refine wpAnyK_take (i := 13) rfl (by kernel_rfl) (by kernel_rfl) (by kernel_rfl) (onlyN_panic _) hF0 (fun K hK => ?_)
      apply Exists.intro
      refine ⟨Or.inl ⟨by kernel_rfl, fun w' hf => ?_⟩, ?_⟩
      · obtain ⟨s2, s30, s31, s32⟩ := (hFi _).1 hf
        go_simp
        try exact rfl
      go_simp
      refine hK _ ?_
      clear hK K
      refine wpAnyK_take (i := 14) rfl (by kernel_rfl) (by kernel_rfl) (by kernel_rfl) (onlyN_panic _) hF0 (fun K hK => ?_)
      apply Exists.intro
      refine ⟨Or.inl ⟨by kernel_rfl, fun w' hf => ?_⟩, ?_⟩
      · obtain ⟨s2, s30, s31, s32⟩ := (hFi _).1 hf
        go_simp
        try exact rfl
      go_simp
      refine hK _ ?_
      clear hK K
      refine wpAnyK_take (i := 17) rfl (by kernel_rfl) (by kernel_rfl) (by kernel_rfl) (onlyN_panic _) hF0 (fun K hK => ?_)
      apply Exists.intro
      refine ⟨Or.inl ⟨by kernel_rfl, fun w' hf => ?_⟩, ?_⟩
      · obtain ⟨s2, s30, s31, s32⟩ := (hFi _).1 hf
        go_simp
        try exact rfl
      go_simp
      refine hK _ ?_
      clear hK K
      refine wpAnyK_take (i := 18) rfl (by kernel_rfl) (by kernel_rfl) (by kernel_rfl) (onlyN_panic _) hF0 (fun K hK => ?_)
      apply Exists.intro
      refine ⟨Or.inl ⟨by kernel_rfl, fun w' hf => ?_⟩, ?_⟩
      · obtain ⟨s2, s30, s31, s32⟩ := (hFi _).1 hf
        go_simp
        try exact rfl
      go_simp
      refine hK _ ?_
      clear hK K
      refine wpAnyK_take (i := 19) rfl (by kernel_rfl) (by kernel_rfl) (by kernel_rfl) (onlyN_panic _) hF0 (fun K hK => ?_)
      apply Exists.intro
      refine ⟨Or.inl ⟨by kernel_rfl, fun w' hf => ?_⟩, ?_⟩
      · obtain ⟨s2, s30, s31, s32⟩ := (hFi _).1 hf
        go_simp
        try exact rfl
      go_simp
      refine hK _ ?_
      clear hK K
      refine wpAnyK_take (i := 20) rfl (by kernel_rfl) (by kernel_rfl) (by kernel_rfl) (onlyN_panic _) hF0 (fun K hK => ?_)
      apply Exists.intro
      refine ⟨Or.inl ⟨by kernel_rfl, fun w' hf => ?_⟩, ?_⟩
      · obtain ⟨s2, s30, s31, s32⟩ := (hFi _).1 hf
        go_simp
        try exact rfl
      go_simp
      refine hK _ ?_
      clear hK K
      refine wpAnyK_take (i := 21) rfl (by kernel_rfl) (by kernel_rfl) (by kernel_rfl) (onlyN_panic _) hF0 (fun K hK => ?_)
      apply Exists.intro
      refine ⟨Or.inl ⟨by kernel_rfl, fun w' hf => ?_⟩, ?_⟩
      · obtain ⟨s2, s30, s31, s32⟩ := (hFi _).1 hf
        go_simp
        try exact rfl
      go_simp
      refine hK _ ?_
      clear hK K
      refine wpAnyK_take (i := 22) rfl (by kernel_rfl) (by kernel_rfl) (by kernel_rfl) (onlyN_panic _) hF0 (fun K hK => ?_)
      apply Exists.intro
      refine ⟨Or.inl ⟨by kernel_rfl, fun w' hf => ?_⟩, ?_⟩
      · obtain ⟨s2, s30, s31, s32⟩ := (hFi _).1 hf
        go_simp
        try exact rfl
      go_simp
      refine hK _ ?_
      clear hK K
      refine wpAnyK_two (k1 := 7) (k2 := 15) (by kernel_rfl) ?_ ?_
      · refine wpOp_step rfl (fun K hK => ?_)
        go_simp
        go_at_call 36
        with_reducible refine (hP _).mono ?_
        rintro e w5 ⟨rfl, hb5⟩
        have hB5 := below_trans' (bd1 (Below.refl _ wr)) (Nat.le_refl _) hb5
        have hF5 := hFb w5 hB5
        refine hK _ _ ⟨hF5, ?_⟩
        clear hK K
        refine wpAnyK_one (k := 15) (by kernel_rfl) ?_
        refine wpOp_step rfl (fun K hK => ?_)
        go_simp
        obtain ⟨W6, hW6⟩ : ∃ W, w5.alloc (.cells #[.int .u8 ((c.v : Int) % 256)] 5) = W := ⟨_, rfl⟩
        have hB6 : Below wr.heap.size wr W6 := by rw [← hW6]; exact below_trans' hB5 (Nat.le_refl _) (aBelow (Below.refl _ _) _)
        have hc6 : W6.cell? ⟨w5.heap.size, 0, none⟩ = some (.int .u8 ((c.v : Int) % 256)) := by rw [← hW6]; exact nwc w5 #[.int .u8 ((c.v : Int) % 256)] 5 0
        have hF6 := hFb _ hB6
        rw [hW6]
        clear hW6
        refine hK _ _ ⟨hF6, ?_⟩
        clear hK K
        refine wpAnyK_one (k := 16) (by kernel_rfl) ?_
        refine wpOp_step rfl (fun K hK => ?_)
        have hcv := convG c.v _ W6 hc6
        go_simp
        refine hK _ _ ⟨hF6, ?_⟩
        clear hK K
        refine wpAnyK_one (k := 23) (by kernel_rfl) ?_
        refine wpOp_step rfl (fun K hK => ?_)
        go_simp
        go_at_call 34
        with_reducible refine (hSe W6 hB6).mono ?_
        rintro e w7 ⟨rfl, hI7, ho7⟩
        have hF7 := hFo w7 ((hOr.trans (only_below hB6)).trans ho7)
        refine hK _ _ ⟨hF7, ?_⟩
        clear hK K
        refine wpAnyK_one (k := 24) (by kernel_rfl) ?_
        refine wpOp_step rfl (fun K hK => ?_)
        go_simp
        refine hK _ _ ⟨hF7, ?_⟩
        clear hK K
        refine wpAnyK_done (by kernel_rfl) ⟨rfl, ?_⟩
        go_wp2
        go_roundw
        case rel => exact ⟨k + 1, by go_num, by omega, hI7, (hOr.trans (only_below hB6)).trans ho7⟩
        case measure => first | (simp [intOf]; done) | (simp [intOf]; omega)
      · refine wpOp_step rfl (fun K hK => ?_)
        go_simp
        obtain ⟨w5, hw5⟩ : ∃ W, (wr.alloc (.cells #[.int .u8 ((c.v : Int) % 256)] 5)).drew = W := ⟨_, rfl⟩
        have hB5 : Below wr.heap.size wr w5 := by rw [← hw5]; exact bd1 (aBelow (Below.refl _ _) _)
        have hc5 : w5.cell? ⟨wr.heap.size, 0, none⟩ = some (.int .u8 ((c.v : Int) % 256)) := by rw [← hw5]; exact nwc wr #[.int .u8 ((c.v : Int) % 256)] 5 0
        have hF5 := hFb _ hB5
        rw [hw5]
        clear hw5
        refine hK _ _ ⟨hF5, ?_⟩
        clear hK K
        refine wpAnyK_two (k1 := 7) (k2 := 16) (by kernel_rfl) ?_ ?_
        · refine wpOp_step rfl (fun K hK => ?_)
          go_simp
          go_at_call 36
          with_reducible refine (hP _).mono ?_
          rintro e W6 ⟨rfl, hb6⟩
          have hB6 := below_trans' hB5 (Nat.le_refl _) hb6
          have hF6 := hFb W6 hB6
          have hc6 := stay hb6 hc5
          refine hK _ _ ⟨hF6, ?_⟩
          clear hK K
          refine wpAnyK_one (k := 16) (by kernel_rfl) ?_
          refine wpOp_step rfl (fun K hK => ?_)
          have hcv := convG c.v _ W6 hc6
          go_simp
          refine hK _ _ ⟨hF6, ?_⟩
          clear hK K
          refine wpAnyK_one (k := 23) (by kernel_rfl) ?_
          refine wpOp_step rfl (fun K hK => ?_)
          go_simp
          go_at_call 34
          with_reducible refine (hSe W6 hB6).mono ?_
          rintro e w7 ⟨rfl, hI7, ho7⟩
          have hF7 := hFo w7 ((hOr.trans (only_below hB6)).trans ho7)
          refine hK _ _ ⟨hF7, ?_⟩
          clear hK K
          refine wpAnyK_one (k := 24) (by kernel_rfl) ?_
          refine wpOp_step rfl (fun K hK => ?_)
          go_simp
          refine hK _ _ ⟨hF7, ?_⟩
          clear hK K
          refine wpAnyK_done (by kernel_rfl) ⟨rfl, ?_⟩
          go_wp2
          go_roundw
          case rel => exact ⟨k + 1, by go_num, by omega, hI7, (hOr.trans (only_below hB6)).trans ho7⟩
          case measure => first | (simp [intOf]; done) | (simp [intOf]; omega)
        · refine wpOp_step rfl (fun K hK => ?_)
          have hcv := convG c.v _ w5 hc5
          go_simp
          refine hK _ _ ⟨hF5, ?_⟩
          clear hK K
          refine wpAnyK_one (k := 7) (by kernel_rfl) ?_
          refine wpOp_step rfl (fun K hK => ?_)
          go_simp
          go_at_call 36
          with_reducible refine (hP _).mono ?_
          rintro e W6 ⟨rfl, hb6⟩
          have hB6 := below_trans' hB5 (Nat.le_refl _) hb6
          have hF6 := hFb W6 hB6
          have hc6 := stay hb6 hc5
          refine hK _ _ ⟨hF6, ?_⟩
          clear hK K
          refine wpAnyK_one (k := 23) (by kernel_rfl) ?_
          refine wpOp_step rfl (fun K hK => ?_)
          go_simp
          go_at_call 34
          with_reducible refine (hSe W6 hB6).mono ?_
          rintro e w7 ⟨rfl, hI7, ho7⟩
          have hF7 := hFo w7 ((hOr.trans (only_below hB6)).trans ho7)
          refine hK _ _ ⟨hF7, ?_⟩
          clear hK K
          refine wpAnyK_one (k := 24) (by kernel_rfl) ?_
          refine wpOp_step rfl (fun K hK => ?_)
          go_simp
          refine hK _ _ ⟨hF7, ?_⟩
          clear hK K
          refine wpAnyK_done (by kernel_rfl) ⟨rfl, ?_⟩
          go_wp2
          go_roundw
          case rel => exact ⟨k + 1, by go_num, by omega, hI7, (hOr.trans (only_below hB6)).trans ho7⟩
          case measure => first | (simp [intOf]; done) | (simp [intOf]; omega)

    · obtain rfl : k = x.l3.length := by omega
      have hm0 : Below w.heap.size w wr.drew := bd1 (below_trans' hBb (Nat.le_refl _) hBr)
      have hm1 := new_mach (x := y) hIr ⟨World.block_lt_of_cell? wr _ hIr.ar.1, World.block_lt_of_cell? wr _ (hIr.ar.2 0 (by have := hIr.may.2.1; omega)).1.1⟩
      clear hI hI4 ho4 hIr
      go_wp2_with (go_at_call 31; (with_reducible refine hm1.mono ?_); (rintro e w8 ⟨rfl, hC8, hb8⟩))
      clear hm1
      obtain ⟨M, hM⟩ : ∃ M : Mc, (⟨wr.heap.size, y, .slice none 0 0, .slice none 0 0⟩ : Mc) = M := ⟨_, rfl⟩
      have hcb : wr.heap.size = M.cb := by rw [← hM]
      have hMy : M.x = y := by rw [← hM]
      have hown : ∀ j, M.own j → wb.heap.size ≤ j := fun j hj => by
        rw [← hM] at hj
        rcases hj with rfl | (rfl | rfl) | hj | hj
        · exact hBr.size
        · show wb.heap.size ≤ y.vb; omega
        · show wb.heap.size ≤ y.tb; omega
        · cases hj
        · cases hj
      have hall : ∀ j, M.all j → w.heap.size ≤ j := fun j hj => by
        rcases hj with hj | hj | hj
        · have := hown j hj; omega
        · rw [hMy] at hj; omega
        · rw [hMy] at hj; omega
      have hC0 : IsC w8 M (x.rgM 0) := by rw [← hM]; exact hC8
      have hB8 : Below wb.heap.size wb w8 := below_trans' hBr (Nat.le_refl _) hb8
      have q1 := stay hb8 q1
      have hlow2 : ∀ W, Only M.own w8 W → Below wb.heap.size wb W := fun W hO => hB8.trans (hO.below hown hB8.size)
      rw [hcb]
      clear hC8 hM hb8 q0 q2
      go_loopw [8] (fun i w9 => ∃ k : Nat, i = .int .i64 k ∧ k ≤ x.l2.length ∧ IsC w9 M (x.rgM k) ∧ Only M.own w8 w9) (fun i _ => x.l2.length - (intOf i).toNat)
      case atStart => exact ⟨0, rfl, Nat.zero_le _, hC0, Only.refl _ _⟩
      case round =>
        obtain ⟨k, rfl, hk, hC9, hO9⟩ := hrel
        have hB9 := hlow2 _ hO9
        have q1 := hO9.cell (a := ⟨w.heap.size, 1, none⟩) (by intro e; have := hown _ e; simp only at this; omega) q1
        by_cases hlt2 : k < x.l2.length
        · obtain ⟨b, o, ha2, c0, c1, c2⟩ := hS.i2 k hlt2
          rw [ha2] at q1
          clear ha2
          have c0 := stay hB9 c0
          have c1 := stay hB9 c1
          have c2 := stay hB9 c2
          have hcw := hS.w2 k
          have i0 : (0 : Int) ≤ (k : Int) := by omega
          have i1 : (k : Int) < (x.l2.length : Int) := by omega
          have hlay : x.rgM (k + 1) = (x.rgM k).lay ((cg x.l2 k).a % 32) (cg x.l2 k).v (cg x.l2 k).t := rfl
          have hSr := setreg_any (hC9.of (bd1 (Below.refl _ _))) ((cg x.l2 k).a % 32) (cg x.l2 k).v (cg x.l2 k).t (Nat.mod_lt _ (by omega)) hcw.2
          rw [← hlay] at hSr
          obtain ⟨c, hc⟩ : ∃ c, cg x.l2 k = c := ⟨_, rfl⟩
          simp only [hc] at hSr c0 c1 c2 hcw
          have hca := hcw.1
          have e32 : ((c.a : Nat) : Int).tmod 32 = ((c.a % 32 : Nat) : Int) := by rw [Int.tmod_eq_emod_of_nonneg (by omega)]; omega
          have e32b : ((c.a % 32 : Nat) : Int) = (c.a : Int) % 32 := by omega
          simp only [e32b] at hSr
          go_wp2
          go_still_tail 21, (by kernel_rfl)
          change wpList _ _ _ _ _ wr.drew
          go_wp2_with (go_at_call 30; (with_reducible refine hSr.mono ?_); (rintro e w10 ⟨rfl, hC10, hO10⟩))
          go_roundw
          case rel => exact ⟨k + 1, by go_num, by omega, hC10, (hO9.trans (only_below (bd1 (Below.refl _ _)))).trans (hO10.mono fun j hj => .inl hj)⟩
          case measure => first | (simp [intOf]; done) | (simp [intOf]; omega)
        · obtain rfl : k = x.l2.length := by omega
          go_wp2
          go_ret2
          exact ⟨⟨M, by rw [hMy]; rfl, by rw [hMy]; exact hyl, hC9, hall⟩, below_trans' hBb (Nat.le_refl _) hB9⟩
end Go.Proofs.YtcckgfablfgknaaGreatDoor.m4
