/- A machine of a setup: its state in plain numbers; contract of cpu.New. -/
import Derived.Test.YtfaacmcnefbgcaaGreatDoorQz
import Derived.Test.YtfaacmcnefbgcaaGreatDoorRa
import Derived.Test.YtfaacmcnefbgcaaGreatDoorQl
namespace Go.Proofs.YtfaacmcnefbgcaaGreatDoor.m4
open Go.ChangeShapes Go.WideShapes Go.ChangeAt Go.RowKit
set_option linter.unusedVariables false
theorem seO_eq {l : List Rg} (hl : MayL l) {p n i : Nat} (hi : i < l.length) (h : (rg l i).has p n) : seO l p n = some (pos l i p n) := by
  unfold seO; rw [hit_eq hl hi h]
theorem hit_code {n : Nat} (hn : n ≤ 200) {p m : Nat} (h0 : 4096 ≤ p) (h1 : p < 4100 + 4 * n) (h2 : p + m ≤ 4100 + 4 * n) : hitI (rgs n) p m = some 0 := by
  refine hit_eq (rgs_may n hn) (by rw [rgs_len]; omega) ?_
  show (4096 : Nat) ≤ p ∧ p < 4096 + (4 * n + 4) ∧ m ≤ 4096 + (4 * n + 4) - p
  omega
theorem hit_in {n : Nat} (hn : n ≤ 200) {p m : Nat} (h0 : 1048576 ≤ p) (h1 : p < 1048832) (h2 : p + m ≤ 1048832) : hitI (rgs n) p m = some 1 := by
  refine hit_eq (rgs_may n hn) (by rw [rgs_len]; omega) ?_
  show (1048576 : Nat) ≤ p ∧ p < 1048576 + 256 ∧ m ≤ 1048576 + 256 - p
  omega
theorem hit_arena {n : Nat} (hn : n ≤ 200) {p m : Nat} (h0 : 2097152 ≤ p) (h1 : p < 2097408) (h2 : p + m ≤ 2097408) : hitI (rgs n) p m = some 2 := by
  refine hit_eq (rgs_may n hn) (by rw [rgs_len]; omega) ?_
  show (2097152 : Nat) ≤ p ∧ p < 2097152 + 256 ∧ m ≤ 2097152 + 256 - p
  omega
theorem seE_code (n : Nat) (hn : n ≤ 200) : seE (rgs n) 4096 (4 * n) = 0 := by
  unfold seE seO; rw [hit_code hn (by omega) (by omega) (by omega)]; rfl
theorem plN_in (k a : Nat) (h : k % 2 = 0) : 1048576 ≤ plN k a ∧ plN k a < 1048832 := by unfold plN; rw [if_pos h]; omega
theorem plN_arena (k a : Nat) (h : ¬ k % 2 = 0) : 2097152 ≤ plN k a ∧ plN k a < 2097408 := by unfold plN; rw [if_neg h]; omega
theorem seE_place (n : Nat) (hn : n ≤ 200) (k a : Nat) : seE (rgs n) (plN k a) 1 = 0 := by
  unfold seE seO
  by_cases h : k % 2 = 0
  · obtain ⟨h1, h2⟩ := plN_in k a h
    rw [hit_in hn h1 h2 (by omega)]; rfl
  · obtain ⟨h1, h2⟩ := plN_arena k a h
    rw [hit_arena hn h1 h2 (by omega)]; rfl
/-- The bytes of a machine: those of its code, of what is laid then. -/
def Su.cdB (x : Su) : Nat → Nat := upO (seO (rgs x.l1.length) 4096 (4 * x.l1.length)) (fun _ => 0) (4 * x.l1.length) (bAt (strOfNums (cdN x.l1)))
def Su.cdT (x : Su) : Nat → Bool := upO (seO (rgs x.l1.length) 4096 (4 * x.l1.length)) (fun _ => false) (4 * x.l1.length) fun _ => false
def s1 (c : Ce) : ByteArray := strOfNums [((c.v % 256 : Nat) : Int)]
def Su.byB (x : Su) : Nat → Nat → Nat
  | 0 => x.cdB
  | k + 1 => upO (seO (rgs x.l1.length) (plN k (cg x.l3 k).a) 1) (x.byB k) 1 (bAt (s1 (cg x.l3 k)))
def Su.byT (x : Su) : Nat → Nat → Bool
  | 0 => x.cdT
  | k + 1 => upO (seO (rgs x.l1.length) (plN k (cg x.l3 k).a) 1) (x.byT k) 1 fun _ => (cg x.l3 k).t
def ms0 (bv : Nat → Nat) (tv : Nat → Bool) : Ms := ⟨fun _ => 0, fun _ => false, 4096, [], [], false, 0, 0, bv, tv⟩
def Su.rgM (x : Su) : Nat → Ms
  | 0 => ms0 (x.byB x.l3.length) (x.byT x.l3.length)
  | k + 1 => (x.rgM k).lay ((cg x.l2 k).a % 32) (cg x.l2 k).v (cg x.l2 k).t
/-- A setup's machine. -/
def Su.ms (x : Su) : Ms := x.rgM x.l2.length
theorem s1_size (c : Ce) : (s1 c).size = 1 := by unfold s1; rw [strOfNums_size]; rfl
theorem conv1b (v : Nat) (W : World) : (convert 65 9 (.slice (some ⟨W.heap.size, 0, none⟩) 1 1)).run Tryz.prog (W.alloc (.cells #[.int .u8 ((v % 256 : Nat) : Int)] 5)) = .ok (.string (strOfNums [((v % 256 : Nat) : Int)])) (W.alloc (.cells #[.int .u8 ((v % 256 : Nat) : Int)] 5)) := by
  refine run_convert_bytes_arg (P := Tryz.prog) _ 65 5 Tryz.underlying65 Tryz.underlying5 W.heap.size 0 1 1 [((v % 256 : Nat) : Int)] rfl ?_ 9 Tryz.underlying9
  intro i hi
  obtain rfl : i = 0 := by omega
  rw [nwc]; rfl
theorem ms0_ok {bv : Nat → Nat} {tv : Nat → Bool} (h : ∀ k, bv k < 256) : (ms0 bv tv).ok := ⟨fun _ => by show (0 : Nat) < _; omega, rfl, rfl, by show (4096 : Nat) < _; omega, by show (0 : Nat) < _; omega, by show (0 : Nat) ≤ _; omega, h⟩
def newC (p : Value) : Array Value := #[p, .int .u64 0, .bool false, .int .u64 0, .bool false, .int .u64 0, .bool false, .int .u64 0, .bool false, .int .u64 0, .bool false, .int .u64 0, .bool false, .int .u64 0, .bool false, .int .u64 0, .bool false, .int .u64 0, .bool false, .int .u64 0, .bool false, .int .u64 0, .bool false, .int .u64 0, .bool false, .int .u64 0, .bool false, .int .u64 0, .bool false, .int .u64 0, .bool false, .int .u64 0, .bool false, .int .u64 0, .bool false, .int .u64 0, .bool false, .int .u64 0, .bool false, .int .u64 0, .bool false, .int .u64 0, .bool false, .int .u64 0, .bool false, .int .u64 0, .bool false, .int .u64 0, .bool false, .int .u64 0, .bool false, .int .u64 0, .bool false, .int .u64 0, .bool false, .int .u64 0, .bool false, .int .u64 0, .bool false, .int .u64 0, .bool false, .int .u64 0, .bool false, .int .u64 0, .bool false, .int .u64 4096, .slice none 0 0, .slice none 0 0, .bool false, .int .u8 0, .int .i64 0]
theorem newC_v (p : Value) (i : Nat) (h : i < 32) : (newC p)[1 + i * 2]? = some (.int .u64 0) := by
  have key : ∀ i < 32, ∀ p : Value, (newC p)[1 + i * 2]? = some (.int .u64 0) := by
    intro i hi p
    match i, hi with
    | 0, _ => exact rfl
    | 1, _ => exact rfl
    | 2, _ => exact rfl
    | 3, _ => exact rfl
    | 4, _ => exact rfl
    | 5, _ => exact rfl
    | 6, _ => exact rfl
    | 7, _ => exact rfl
    | 8, _ => exact rfl
    | 9, _ => exact rfl
    | 10, _ => exact rfl
    | 11, _ => exact rfl
    | 12, _ => exact rfl
    | 13, _ => exact rfl
    | 14, _ => exact rfl
    | 15, _ => exact rfl
    | 16, _ => exact rfl
    | 17, _ => exact rfl
    | 18, _ => exact rfl
    | 19, _ => exact rfl
    | 20, _ => exact rfl
    | 21, _ => exact rfl
    | 22, _ => exact rfl
    | 23, _ => exact rfl
    | 24, _ => exact rfl
    | 25, _ => exact rfl
    | 26, _ => exact rfl
    | 27, _ => exact rfl
    | 28, _ => exact rfl
    | 29, _ => exact rfl
    | 30, _ => exact rfl
    | 31, _ => exact rfl
    | n + 32, h => exact absurd h (by omega)
  exact key i h p
theorem newC_t (p : Value) (i : Nat) (h : i < 32) : (newC p)[1 + i * 2 + 1]? = some (.bool false) := by
  have key : ∀ i < 32, ∀ p : Value, (newC p)[1 + i * 2 + 1]? = some (.bool false) := by
    intro i hi p
    match i, hi with
    | 0, _ => exact rfl
    | 1, _ => exact rfl
    | 2, _ => exact rfl
    | 3, _ => exact rfl
    | 4, _ => exact rfl
    | 5, _ => exact rfl
    | 6, _ => exact rfl
    | 7, _ => exact rfl
    | 8, _ => exact rfl
    | 9, _ => exact rfl
    | 10, _ => exact rfl
    | 11, _ => exact rfl
    | 12, _ => exact rfl
    | 13, _ => exact rfl
    | 14, _ => exact rfl
    | 15, _ => exact rfl
    | 16, _ => exact rfl
    | 17, _ => exact rfl
    | 18, _ => exact rfl
    | 19, _ => exact rfl
    | 20, _ => exact rfl
    | 21, _ => exact rfl
    | 22, _ => exact rfl
    | 23, _ => exact rfl
    | 24, _ => exact rfl
    | 25, _ => exact rfl
    | 26, _ => exact rfl
    | 27, _ => exact rfl
    | 28, _ => exact rfl
    | 29, _ => exact rfl
    | 30, _ => exact rfl
    | 31, _ => exact rfl
    | n + 32, h => exact absurd h (by omega)
  exact key i h p
theorem new_arg (pc : Nat) (w : World) : Calls Tryz.prog 20 #[.pointer none, .int .u64 pc] w fun e w' => e = .returned (.tuple #[.pointer none, .int .i64 2]) ∧ w = w' := by
  go_enter Tryz.func20, Tryz.ntmps20
  go_wp2
  go_ret2
  exact ⟨rfl, rfl⟩
set_option maxRecDepth 100000 in
theorem new_mach {w : World} {x : Mm} {bv : Nat → Nat} {tv : Nat → Bool} (h : IsM w x bv tv) (hl : x.mb < w.heap.size ∧ x.ab < w.heap.size) : Calls Tryz.prog 20 #[.pointer (some ⟨x.mb, 0, none⟩), .int .u64 4096] w fun e w' => e = .returned (.tuple #[.pointer (some ⟨w.heap.size, 0, none⟩), .int .i64 0]) ∧ IsC w' ⟨w.heap.size, x, .slice none 0 0, .slice none 0 0⟩ (ms0 bv tv) ∧ Below w.heap.size w w' := by
  go_enter Tryz.func20, Tryz.ntmps20
  go_wp2
  go_ret2
  have hB := aBelow (Below.refl w.heap.size w) (.cells (newC (.pointer (some ⟨x.mb, 0, none⟩))) 76)
  have hc := fun o => nwc w (newC (.pointer (some ⟨x.mb, 0, none⟩))) 76 o
  have hf := fun o => nwf w (newC (.pointer (some ⟨x.mb, 0, none⟩))) 76 o
  have hm := h.of hB
  have e1 : x.vb < w.heap.size := h.lv
  have e2 : x.tb < w.heap.size := h.lt
  refine ⟨rfl, ?_, hB⟩
  exact { c0 := hc 0, rv := fun i hi => (hc _).trans (newC_v _ i hi), rt := fun i hi => (hc _).trans (newC_t _ i hi), c65 := hc 65, c66 := hc 66, c67 := hc 67, c68 := hc 68, c69 := hc 69, c70 := hc 70, fz := hf, lt := by rw [World.size_alloc]; exact Nat.lt_succ_self _, rowT := World.ownsRow_nil _ _ _ _, rowR := World.ownsRow_nil _ _ _ _, mem := hm, n1 := ⟨by show w.heap.size ≠ x.mb; omega, by show w.heap.size ≠ x.ab; omega, by show w.heap.size ≠ x.vb; omega, by show w.heap.size ≠ x.tb; omega⟩, n2 := fun j hj => (by cases hj), n3 := fun j hj => (by cases hj), n4 := fun j hj => (by cases hj), ok := ms0_ok h.b8 }
end Go.Proofs.YtfaacmcnefbgcaaGreatDoor.m4

/- Contract of Built: a machine of a setup. -/
namespace Go.Proofs.YtfaacmcnefbgcaaGreatDoor.m4
open Go.ChangeShapes Go.WideShapes Go.ChangeAt Go.RowKit
set_option linter.unusedVariables false
theorem convG (v b : Nat) (W : World) (h : W.cell? ⟨b, 0, none⟩ = some (.int .u8 ((v : Int) % 256))) : (convert 65 9 (.slice (some ⟨b, 0, none⟩) 1 1)).run Tryz.prog W = .ok (.string (strOfNums [((v % 256 : Nat) : Int)])) W := by
  refine run_convert_bytes_arg (P := Tryz.prog) _ 65 5 Tryz.underlying65 Tryz.underlying5 b 0 1 1 [((v % 256 : Nat) : Int)] rfl ?_ 9 Tryz.underlying9
  intro i hi
  obtain rfl : i = 0 := by omega
  rw [show 0 + 0 = 0 from rfl, h]; rfl
theorem byB_lt (x : Su) : ∀ k i, x.byB k i < 256
  | 0, i => upO_b8 (fun _ => by omega) (bAt_lt _) i
  | k + 1, i => upO_b8 (byB_lt x k) (bAt_lt _) i
/-- What Built leaves. -/
def BtP (w : World) (x : Su) (e : Ending) (w' : World) : Prop := (∃ M : Mc, e = .returned (.tuple #[.pointer (some ⟨M.cb, 0, none⟩), .pointer (some ⟨M.x.mb, 0, none⟩)]) ∧ M.x.l = rgs x.l1.length ∧ IsC w' M x.ms ∧ ∀ j, M.all j → w.heap.size ≤ j) ∧ Below w.heap.size w w'

set_option maxRecDepth 100000 in
set_option maxHeartbeats 4000000 in
theorem built_any (x : Su) (hx : x.small) (w : World) (h : SuIn w x) : Calls Tryz.prog 6 #[x.val] w (BtP w x) := by
  obtain ⟨hx1, hx2, hx3⟩ := hx
  obtain ⟨wb, hwb⟩ : ∃ wb, w.alloc (.cells #[.slice x.a1 x.l1.length x.c1, .slice x.a2 x.l2.length x.c2, .slice x.a3 x.l3.length x.c3] 25) = wb := ⟨_, rfl⟩
  have hBb : Below w.heap.size w wb := by rw [← hwb]; exact aBelow (Below.refl _ _) _
  have hsz : wb.heap.size = w.heap.size + 1 := by rw [← hwb, World.size_alloc]
  have g0 : wb.cell? ⟨w.heap.size, 0, none⟩ = some (.slice x.a1 x.l1.length x.c1) := by rw [← hwb]; exact nwc _ _ _ _
  have g1 : wb.cell? ⟨w.heap.size, 1, none⟩ = some (.slice x.a2 x.l2.length x.c2) := by rw [← hwb]; exact nwc _ _ _ _
  have g2 : wb.cell? ⟨w.heap.size, 2, none⟩ = some (.slice x.a3 x.l3.length x.c3) := by rw [← hwb]; exact nwc _ _ _ _
  have hS := h.of hBb
  have hR := regions_any x hx1
  have hz : (strOfNums (cdN x.l1)).size = 4 * x.l1.length := by rw [strOfNums_size, cdN_length]
  unfold Su.val at hR ⊢
  go_enter Tryz.func6, Tryz.ntmps6
  go_wp2_with (first
    | (go_at_call 16; (with_reducible refine (hR _).mono ?_); (rintro e w1 ⟨⟨g, rfl, hrow, hg1, hg2⟩, hb1⟩); have hN := new_yes (rgs x.l1.length) (rgs_may _ hx1) (rgs_wf _ hx1) g 0 3 (Nat.le_refl 3) w1 hrow hg2; rw [rgs_len] at hN)
    | (go_at_call 15; (with_reducible refine hN.mono ?_); (rintro e w2 ⟨⟨y, rfl, hyl, hI, y1, y2, y3, y4⟩, hb2⟩); have hB2 := below_trans' hb1 (Nat.le_refl _) hb2; have hs1 := hb1.size; have hCd := code_any x.l1 x.a1 x.c1 hx1 h.w1 w2 (hS.i1.of hB2); have g0 := stay hB2 g0; have g1 := stay hB2 g1; have g2 := stay hB2 g2)
    | (go_at_call 18; (with_reducible refine hCd.mono ?_); (rintro e w3 ⟨rfl, hb3⟩); have hSt := set_any 4096 (strOfNums (cdN x.l1)) (by omega) false (by omega) w3 (hI.of hb3); rw [hz, hyl, seE_code _ hx1, show ((4096 : Nat) : Int) = 4096 from rfl] at hSt)
    | (go_at_call 17; (with_reducible refine hSt.mono ?_); (rintro e w4 ⟨rfl, hI4, ho4⟩)))
  have hO4 : Only (fun j => j = y.vb ∨ j = y.tb) w2 w4 := (only_below hb3).trans ho4
  have hlow : ∀ W, Only (fun j => j = y.vb ∨ j = y.tb) w2 W → Below wb.heap.size wb W := fun W hO => hB2.trans (hO.below (fun j hj => by rcases hj with rfl | rfl <;> omega) (by have := hB2.size; omega))
  clear hR hN hCd hSt hrow
  have hlv := hI.lv
  have hlt := hI.lt
  go_loopw [6] (fun i wr => ∃ k : Nat, i = .int .i64 k ∧ k ≤ x.l3.length ∧ IsM wr y (x.byB k) (x.byT k) ∧ Only (fun j => j = y.vb ∨ j = y.tb) w2 wr) (fun i _ => x.l3.length - (intOf i).toNat)
  case atStart => exact ⟨0, rfl, Nat.zero_le _, hI4, hO4⟩
  case round =>
    obtain ⟨k, rfl, hk, hIr, hOr⟩ := hrel
    have hBr := hlow _ hOr
    have q0 := hOr.cell (a := ⟨w.heap.size, 0, none⟩) (by rintro (e | e) <;> (simp only at e; omega)) g0
    have q1 := hOr.cell (a := ⟨w.heap.size, 1, none⟩) (by rintro (e | e) <;> (simp only at e; omega)) g1
    have q2 := hOr.cell (a := ⟨w.heap.size, 2, none⟩) (by rintro (e | e) <;> (simp only at e; omega)) g2
    by_cases hlt3 : k < x.l3.length
    · obtain ⟨b, o, ha3, c0, c1, c2⟩ := hS.i3 k hlt3
      rw [ha3] at g2 q2
      clear ha3
      have d0 := c0
      have d1 := c1
      have d2 := c2
      have c0 := stay hBr c0
      have c1 := stay hBr c1
      have c2 := stay hBr c2
      have hcw := hS.w3 k
      have hP := place_any5 k (cg x.l3 k) hcw
      have i0 : (0 : Int) ≤ (k : Int) := by omega
      have i1 : (k : Int) < (x.l3.length : Int) := by omega
      have hpl := plN_lt k (cg x.l3 k).a
      have hsp := seE_place x.l1.length hx1 k (cg x.l3 k).a
      have hSe : ∀ W, Below wr.heap.size wr W → Calls Tryz.prog 17 #[.pointer (some ⟨y.mb, 0, none⟩), .int .u64 (plN k (cg x.l3 k).a : Nat), .string (s1 (cg x.l3 k)), .bool (cg x.l3 k).t] W fun e w' => e = .returned (.int .i64 0) ∧ Wrt y (x.byB (k + 1)) (x.byT (k + 1)) W w' := fun W hB => by
        have := set_any (plN k (cg x.l3 k).a) (s1 (cg x.l3 k)) (by rw [s1_size]; omega) (cg x.l3 k).t hpl W (hIr.of hB)
        rw [s1_size, hyl, hsp] at this
        exact this
      unfold s1 at hSe
      obtain ⟨c, hc⟩ : ∃ c, cg x.l3 k = c := ⟨_, rfl⟩
      simp only [hc] at hSe c0 c1 c2 d0 d1 d2 hP hcw hpl
      have e8 : ((c.v % 256 : Nat) : Int) = (c.v : Int) % 256 := by omega
      simp only [e8] at hSe
      have v8 : IntKind.u8.wrap (c.v : Int) = ((c.v % 256 : Nat) : Int) := by rw [IntKind.wrap_u8]; omega
      obtain ⟨F, hFd⟩ : ∃ F : World → Prop, F = fun w' : World => (w'.cell? ⟨w.heap.size, 2, none⟩ = some (.slice (some ⟨b, o, none⟩) x.l3.length x.c3) ∧ w'.cell? ⟨b, o + k * 3, none⟩ = some (.int .u8 (c.a : Nat)) ∧ w'.cell? ⟨b, o + k * 3 + 1, none⟩ = some (.int .u64 (c.v : Nat)) ∧ w'.cell? ⟨b, o + k * 3 + 2, none⟩ = some (.bool c.t)) := ⟨_, rfl⟩
      have hFi : ∀ w', F w' ↔ (w'.cell? ⟨w.heap.size, 2, none⟩ = some (.slice (some ⟨b, o, none⟩) x.l3.length x.c3) ∧ w'.cell? ⟨b, o + k * 3, none⟩ = some (.int .u8 (c.a : Nat)) ∧ w'.cell? ⟨b, o + k * 3 + 1, none⟩ = some (.int .u64 (c.v : Nat)) ∧ w'.cell? ⟨b, o + k * 3 + 2, none⟩ = some (.bool c.t)) := fun w' => by rw [hFd]
      clear hFd
      have hF0 : F wr.drew := (hFi _).2 ⟨q2, c0, c1, c2⟩
      have hFb : ∀ W, Below wr.heap.size wr W → F W := fun W hB => (hFi _).2 ⟨stay hB q2, stay hB c0, stay hB c1, stay hB c2⟩
      have hFo : ∀ W, Only (fun j => j = y.vb ∨ j = y.tb) w2 W → F W := fun W hO => (hFi _).2 ⟨hO.cell (a := ⟨w.heap.size, 2, none⟩) (by rintro (e | e) <;> (simp only at e; omega)) g2, stay (hlow _ hO) d0, stay (hlow _ hO) d1, stay (hlow _ hO) d2⟩
      go_wp2
      refine region_KN F (by kernel_rfl) ?_
      refine wpAnyK_take (i := 0) rfl (by kernel_rfl) (by kernel_rfl) (by kernel_rfl) (onlyN_panic _) hF0 (fun K hK => ?_)
      apply Exists.intro
      refine ⟨Or.inl ⟨by kernel_rfl, fun w' hf => ?_⟩, ?_⟩
      · obtain ⟨s2, s30, s31, s32⟩ := (hFi _).1 hf
        go_simp
        try exact rfl
      go_simp
      refine hK _ ?_
      clear hK K
      refine wpAnyK_take (i := 1) rfl (by kernel_rfl) (by kernel_rfl) (by kernel_rfl) (onlyN_panic _) hF0 (fun K hK => ?_)
      apply Exists.intro
      refine ⟨Or.inl ⟨by kernel_rfl, fun w' hf => ?_⟩, ?_⟩
      · obtain ⟨s2, s30, s31, s32⟩ := (hFi _).1 hf
        go_simp
        try exact rfl
      go_simp
      refine hK _ ?_
      clear hK K
      refine wpAnyK_take (i := 2) rfl (by kernel_rfl) (by kernel_rfl) (by kernel_rfl) (onlyN_panic _) hF0 (fun K hK => ?_)
      apply Exists.intro
      refine ⟨Or.inl ⟨by kernel_rfl, fun w' hf => ?_⟩, ?_⟩
      · obtain ⟨s2, s30, s31, s32⟩ := (hFi _).1 hf
        go_simp
        try exact rfl
      go_simp
      refine hK _ ?_
      clear hK K
      refine wpAnyK_take (i := 3) rfl (by kernel_rfl) (by kernel_rfl) (by kernel_rfl) (onlyN_panic _) hF0 (fun K hK => ?_)
      apply Exists.intro
      refine ⟨Or.inl ⟨by kernel_rfl, fun w' hf => ?_⟩, ?_⟩
      · obtain ⟨s2, s30, s31, s32⟩ := (hFi _).1 hf
        go_simp
        try exact rfl
      go_simp
      refine hK _ ?_
      clear hK K
      refine wpAnyK_take (i := 4) rfl (by kernel_rfl) (by kernel_rfl) (by kernel_rfl) (onlyN_panic _) hF0 (fun K hK => ?_)
      apply Exists.intro
      refine ⟨Or.inl ⟨by kernel_rfl, fun w' hf => ?_⟩, ?_⟩
      · obtain ⟨s2, s30, s31, s32⟩ := (hFi _).1 hf
        go_simp
        try exact rfl
      go_simp
      refine hK _ ?_
      clear hK K
      refine wpAnyK_take (i := 5) rfl (by kernel_rfl) (by kernel_rfl) (by kernel_rfl) (onlyN_panic _) hF0 (fun K hK => ?_)
      apply Exists.intro
      refine ⟨Or.inl ⟨by kernel_rfl, fun w' hf => ?_⟩, ?_⟩
      · obtain ⟨s2, s30, s31, s32⟩ := (hFi _).1 hf
        go_simp
        try exact rfl
      go_simp
      refine hK _ ?_
      clear hK K
      refine wpAnyK_take (i := 6) rfl (by kernel_rfl) (by kernel_rfl) (by kernel_rfl) (onlyN_panic _) hF0 (fun K hK => ?_)
      apply Exists.intro
      refine ⟨Or.inl ⟨by kernel_rfl, fun w' hf => ?_⟩, ?_⟩
      · obtain ⟨s2, s30, s31, s32⟩ := (hFi _).1 hf
        go_simp
        try exact rfl
      go_simp
      refine hK _ ?_
      clear hK K
      refine wpAnyK_take (i := 8) rfl (by kernel_rfl) (by kernel_rfl) (by kernel_rfl) (onlyN_panic _) hF0 (fun K hK => ?_)
      apply Exists.intro
      refine ⟨Or.inl ⟨by kernel_rfl, fun w' hf => ?_⟩, ?_⟩
      · obtain ⟨s2, s30, s31, s32⟩ := (hFi _).1 hf
        go_simp
        try exact rfl
      go_simp
      refine hK _ ?_
      clear hK K
      refine wpAnyK_take (i := 9) rfl (by kernel_rfl) (by kernel_rfl) (by kernel_rfl) (onlyN_panic _) hF0 (fun K hK => ?_)
      apply Exists.intro
      refine ⟨Or.inl ⟨by kernel_rfl, fun w' hf => ?_⟩, ?_⟩
      · obtain ⟨s2, s30, s31, s32⟩ := (hFi _).1 hf
        go_simp
        try exact rfl
      go_simp
      refine hK _ ?_
      clear hK K
      refine wpAnyK_take (i := 10) rfl (by kernel_rfl) (by kernel_rfl) (by kernel_rfl) (onlyN_panic _) hF0 (fun K hK => ?_)
      apply Exists.intro
      refine ⟨Or.inl ⟨by kernel_rfl, fun w' hf => ?_⟩, ?_⟩
      · obtain ⟨s2, s30, s31, s32⟩ := (hFi _).1 hf
        go_simp
        try exact rfl
      go_simp
      refine hK _ ?_
      clear hK K
      refine wpAnyK_take (i := 11) rfl (by kernel_rfl) (by kernel_rfl) (by kernel_rfl) (onlyN_panic _) hF0 (fun K hK => ?_)
      apply Exists.intro
      refine ⟨Or.inl ⟨by kernel_rfl, fun w' hf => ?_⟩, ?_⟩
      · obtain ⟨s2, s30, s31, s32⟩ := (hFi _).1 hf
        go_simp
        try exact rfl
      go_simp
      refine hK _ ?_
      clear hK K
      refine wpAnyK_take (i := 12) rfl (by kernel_rfl) (by kernel_rfl) (by kernel_rfl) (onlyN_panic _) hF0 (fun K hK => ?_)
      apply Exists.intro
      refine ⟨Or.inl ⟨by kernel_rfl, fun w' hf => ?_⟩, ?_⟩
      · obtain ⟨s2, s30, s31, s32⟩ := (hFi _).1 hf
        go_simp
        try exact rfl
      go_simp
      refine hK _ ?_
      clear hK K
      refine wpAnyK_take (i := 13) rfl (by kernel_rfl) (by kernel_rfl) (by kernel_rfl) (onlyN_panic _) hF0 (fun K hK => ?_)
      apply Exists.intro
      refine ⟨Or.inl ⟨by kernel_rfl, fun w' hf => ?_⟩, ?_⟩
      · obtain ⟨s2, s30, s31, s32⟩ := (hFi _).1 hf
        go_simp
        try exact rfl
      go_simp
      refine hK _ ?_
      clear hK K
      refine wpAnyK_take (i := 14) rfl (by kernel_rfl) (by kernel_rfl) (by kernel_rfl) (onlyN_panic _) hF0 (fun K hK => ?_)
      apply Exists.intro
      refine ⟨Or.inl ⟨by kernel_rfl, fun w' hf => ?_⟩, ?_⟩
      · obtain ⟨s2, s30, s31, s32⟩ := (hFi _).1 hf
        go_simp
        try exact rfl
      go_simp
      refine hK _ ?_
      clear hK K
      refine wpAnyK_take (i := 17) rfl (by kernel_rfl) (by kernel_rfl) (by kernel_rfl) (onlyN_panic _) hF0 (fun K hK => ?_)
      apply Exists.intro
      refine ⟨Or.inl ⟨by kernel_rfl, fun w' hf => ?_⟩, ?_⟩
      · obtain ⟨s2, s30, s31, s32⟩ := (hFi _).1 hf
        go_simp
        try exact rfl
      go_simp
      refine hK _ ?_
      clear hK K
      refine wpAnyK_take (i := 18) rfl (by kernel_rfl) (by kernel_rfl) (by kernel_rfl) (onlyN_panic _) hF0 (fun K hK => ?_)
      apply Exists.intro
      refine ⟨Or.inl ⟨by kernel_rfl, fun w' hf => ?_⟩, ?_⟩
      · obtain ⟨s2, s30, s31, s32⟩ := (hFi _).1 hf
        go_simp
        try exact rfl
      go_simp
      refine hK _ ?_
      clear hK K
      refine wpAnyK_take (i := 19) rfl (by kernel_rfl) (by kernel_rfl) (by kernel_rfl) (onlyN_panic _) hF0 (fun K hK => ?_)
      apply Exists.intro
      refine ⟨Or.inl ⟨by kernel_rfl, fun w' hf => ?_⟩, ?_⟩
      · obtain ⟨s2, s30, s31, s32⟩ := (hFi _).1 hf
        go_simp
        try exact rfl
      go_simp
      refine hK _ ?_
      clear hK K
      refine wpAnyK_take (i := 20) rfl (by kernel_rfl) (by kernel_rfl) (by kernel_rfl) (onlyN_panic _) hF0 (fun K hK => ?_)
      apply Exists.intro
      refine ⟨Or.inl ⟨by kernel_rfl, fun w' hf => ?_⟩, ?_⟩
      · obtain ⟨s2, s30, s31, s32⟩ := (hFi _).1 hf
        go_simp
        try exact rfl
      go_simp
      refine hK _ ?_
      clear hK K
      refine wpAnyK_take (i := 21) rfl (by kernel_rfl) (by kernel_rfl) (by kernel_rfl) (onlyN_panic _) hF0 (fun K hK => ?_)
      apply Exists.intro
      refine ⟨Or.inl ⟨by kernel_rfl, fun w' hf => ?_⟩, ?_⟩
      · obtain ⟨s2, s30, s31, s32⟩ := (hFi _).1 hf
        go_simp
        try exact rfl
      go_simp
      refine hK _ ?_
      clear hK K
      refine wpAnyK_take (i := 22) rfl (by kernel_rfl) (by kernel_rfl) (by kernel_rfl) (onlyN_panic _) hF0 (fun K hK => ?_)
      apply Exists.intro
      refine ⟨Or.inl ⟨by kernel_rfl, fun w' hf => ?_⟩, ?_⟩
      · obtain ⟨s2, s30, s31, s32⟩ := (hFi _).1 hf
        go_simp
        try exact rfl
      go_simp
      refine hK _ ?_
      clear hK K
      refine wpAnyK_two (k1 := 7) (k2 := 15) (by kernel_rfl) ?_ ?_
      · refine wpOp_step rfl (fun K hK => ?_)
        go_simp
        go_at_call 19
        with_reducible refine (hP _).mono ?_
        rintro e w5 ⟨rfl, hb5⟩
        have hB5 := below_trans' (bd1 (Below.refl _ wr)) (Nat.le_refl _) hb5
        have hF5 := hFb w5 hB5
        refine hK _ _ ⟨hF5, ?_⟩
        clear hK K
        refine wpAnyK_one (k := 15) (by kernel_rfl) ?_
        refine wpOp_step rfl (fun K hK => ?_)
        go_simp
        obtain ⟨W6, hW6⟩ : ∃ W, w5.alloc (.cells #[.int .u8 ((c.v : Int) % 256)] 5) = W := ⟨_, rfl⟩
        have hB6 : Below wr.heap.size wr W6 := by rw [← hW6]; exact below_trans' hB5 (Nat.le_refl _) (aBelow (Below.refl _ _) _)
        have hc6 : W6.cell? ⟨w5.heap.size, 0, none⟩ = some (.int .u8 ((c.v : Int) % 256)) := by rw [← hW6]; exact nwc w5 #[.int .u8 ((c.v : Int) % 256)] 5 0
        have hF6 := hFb _ hB6
        rw [hW6]
        clear hW6
        refine hK _ _ ⟨hF6, ?_⟩
        clear hK K
        refine wpAnyK_one (k := 16) (by kernel_rfl) ?_
        refine wpOp_step rfl (fun K hK => ?_)
        have hcv := convG c.v _ W6 hc6
        go_simp
        refine hK _ _ ⟨hF6, ?_⟩
        clear hK K
        refine wpAnyK_one (k := 23) (by kernel_rfl) ?_
        refine wpOp_step rfl (fun K hK => ?_)
        go_simp
        go_at_call 17
        with_reducible refine (hSe W6 hB6).mono ?_
        rintro e w7 ⟨rfl, hI7, ho7⟩
        have hF7 := hFo w7 ((hOr.trans (only_below hB6)).trans ho7)
        refine hK _ _ ⟨hF7, ?_⟩
        clear hK K
        refine wpAnyK_one (k := 24) (by kernel_rfl) ?_
        refine wpOp_step rfl (fun K hK => ?_)
        go_simp
        refine hK _ _ ⟨hF7, ?_⟩
        clear hK K
        refine wpAnyK_done (by kernel_rfl) ⟨rfl, ?_⟩
        go_wp2
        go_roundw
        case rel => exact ⟨k + 1, by go_num, by omega, hI7, (hOr.trans (only_below hB6)).trans ho7⟩
        case measure => first | (simp [intOf]; done) | (simp [intOf]; omega)
      · refine wpOp_step rfl (fun K hK => ?_)
        go_simp
        obtain ⟨w5, hw5⟩ : ∃ W, (wr.alloc (.cells #[.int .u8 ((c.v : Int) % 256)] 5)).drew = W := ⟨_, rfl⟩
        have hB5 : Below wr.heap.size wr w5 := by rw [← hw5]; exact bd1 (aBelow (Below.refl _ _) _)
        have hc5 : w5.cell? ⟨wr.heap.size, 0, none⟩ = some (.int .u8 ((c.v : Int) % 256)) := by rw [← hw5]; exact nwc wr #[.int .u8 ((c.v : Int) % 256)] 5 0
        have hF5 := hFb _ hB5
        rw [hw5]
        clear hw5
        refine hK _ _ ⟨hF5, ?_⟩
        clear hK K
        refine wpAnyK_two (k1 := 7) (k2 := 16) (by kernel_rfl) ?_ ?_
        · refine wpOp_step rfl (fun K hK => ?_)
          go_simp
          go_at_call 19
          with_reducible refine (hP _).mono ?_
          rintro e W6 ⟨rfl, hb6⟩
          have hB6 := below_trans' hB5 (Nat.le_refl _) hb6
          have hF6 := hFb W6 hB6
          have hc6 := stay hb6 hc5
          refine hK _ _ ⟨hF6, ?_⟩
          clear hK K
          refine wpAnyK_one (k := 16) (by kernel_rfl) ?_
          refine wpOp_step rfl (fun K hK => ?_)
          have hcv := convG c.v _ W6 hc6
          go_simp
          refine hK _ _ ⟨hF6, ?_⟩
          clear hK K
          refine wpAnyK_one (k := 23) (by kernel_rfl) ?_
          refine wpOp_step rfl (fun K hK => ?_)
          go_simp
          go_at_call 17
          with_reducible refine (hSe W6 hB6).mono ?_
          rintro e w7 ⟨rfl, hI7, ho7⟩
          have hF7 := hFo w7 ((hOr.trans (only_below hB6)).trans ho7)
          refine hK _ _ ⟨hF7, ?_⟩
          clear hK K
          refine wpAnyK_one (k := 24) (by kernel_rfl) ?_
          refine wpOp_step rfl (fun K hK => ?_)
          go_simp
          refine hK _ _ ⟨hF7, ?_⟩
          clear hK K
          refine wpAnyK_done (by kernel_rfl) ⟨rfl, ?_⟩
          go_wp2
          go_roundw
          case rel => exact ⟨k + 1, by go_num, by omega, hI7, (hOr.trans (only_below hB6)).trans ho7⟩
          case measure => first | (simp [intOf]; done) | (simp [intOf]; omega)
        · refine wpOp_step rfl (fun K hK => ?_)
          have hcv := convG c.v _ w5 hc5
          go_simp
          refine hK _ _ ⟨hF5, ?_⟩
          clear hK K
          refine wpAnyK_one (k := 7) (by kernel_rfl) ?_
          refine wpOp_step rfl (fun K hK => ?_)
          go_simp
          go_at_call 19
          with_reducible refine (hP _).mono ?_
          rintro e W6 ⟨rfl, hb6⟩
          have hB6 := below_trans' hB5 (Nat.le_refl _) hb6
          have hF6 := hFb W6 hB6
          have hc6 := stay hb6 hc5
          refine hK _ _ ⟨hF6, ?_⟩
          clear hK K
          refine wpAnyK_one (k := 23) (by kernel_rfl) ?_
          refine wpOp_step rfl (fun K hK => ?_)
          go_simp
          go_at_call 17
          with_reducible refine (hSe W6 hB6).mono ?_
          rintro e w7 ⟨rfl, hI7, ho7⟩
          have hF7 := hFo w7 ((hOr.trans (only_below hB6)).trans ho7)
          refine hK _ _ ⟨hF7, ?_⟩
          clear hK K
          refine wpAnyK_one (k := 24) (by kernel_rfl) ?_
          refine wpOp_step rfl (fun K hK => ?_)
          go_simp
          refine hK _ _ ⟨hF7, ?_⟩
          clear hK K
          refine wpAnyK_done (by kernel_rfl) ⟨rfl, ?_⟩
          go_wp2
          go_roundw
          case rel => exact ⟨k + 1, by go_num, by omega, hI7, (hOr.trans (only_below hB6)).trans ho7⟩
          case measure => first | (simp [intOf]; done) | (simp [intOf]; omega)

    · obtain rfl : k = x.l3.length := by omega
      have hm0 : Below w.heap.size w wr.drew := bd1 (below_trans' hBb (Nat.le_refl _) hBr)
      have hm1 := new_mach (x := y) hIr ⟨World.block_lt_of_cell? wr _ hIr.ar.1, World.block_lt_of_cell? wr _ (hIr.ar.2 0 (by have := hIr.may.2.1; omega)).1.1⟩
      clear hI hI4 ho4 hIr
      go_wp2_with (go_at_call 20; (with_reducible refine hm1.mono ?_); (rintro e w8 ⟨rfl, hC8, hb8⟩))
      clear hm1
      obtain ⟨M, hM⟩ : ∃ M : Mc, (⟨wr.heap.size, y, .slice none 0 0, .slice none 0 0⟩ : Mc) = M := ⟨_, rfl⟩
      have hcb : wr.heap.size = M.cb := by rw [← hM]
      have hMy : M.x = y := by rw [← hM]
      have hown : ∀ j, M.own j → wb.heap.size ≤ j := fun j hj => by
        rw [← hM] at hj
        rcases hj with rfl | (rfl | rfl) | hj | hj
        · exact hBr.size
        · show wb.heap.size ≤ y.vb; omega
        · show wb.heap.size ≤ y.tb; omega
        · cases hj
        · cases hj
      have hall : ∀ j, M.all j → w.heap.size ≤ j := fun j hj => by
        rcases hj with hj | hj | hj
        · have := hown j hj; omega
        · rw [hMy] at hj; omega
        · rw [hMy] at hj; omega
      have hC0 : IsC w8 M (x.rgM 0) := by rw [← hM]; exact hC8
      have hB8 : Below wb.heap.size wb w8 := below_trans' hBr (Nat.le_refl _) hb8
      have q1 := stay hb8 q1
      have hlow2 : ∀ W, Only M.own w8 W → Below wb.heap.size wb W := fun W hO => hB8.trans (hO.below hown hB8.size)
      rw [hcb]
      clear hC8 hM hb8 q0 q2
      go_loopw [8] (fun i w9 => ∃ k : Nat, i = .int .i64 k ∧ k ≤ x.l2.length ∧ IsC w9 M (x.rgM k) ∧ Only M.own w8 w9) (fun i _ => x.l2.length - (intOf i).toNat)
      case atStart => exact ⟨0, rfl, Nat.zero_le _, hC0, Only.refl _ _⟩
      case round =>
        obtain ⟨k, rfl, hk, hC9, hO9⟩ := hrel
        have hB9 := hlow2 _ hO9
        have q1 := hO9.cell (a := ⟨w.heap.size, 1, none⟩) (by intro e; have := hown _ e; simp only at this; omega) q1
        by_cases hlt2 : k < x.l2.length
        · obtain ⟨b, o, ha2, c0, c1, c2⟩ := hS.i2 k hlt2
          rw [ha2] at q1
          clear ha2
          have c0 := stay hB9 c0
          have c1 := stay hB9 c1
          have c2 := stay hB9 c2
          have hcw := hS.w2 k
          have i0 : (0 : Int) ≤ (k : Int) := by omega
          have i1 : (k : Int) < (x.l2.length : Int) := by omega
          have hlay : x.rgM (k + 1) = (x.rgM k).lay ((cg x.l2 k).a % 32) (cg x.l2 k).v (cg x.l2 k).t := rfl
          have hSr := setreg_any (hC9.of (bd1 (Below.refl _ _))) ((cg x.l2 k).a % 32) (cg x.l2 k).v (cg x.l2 k).t (Nat.mod_lt _ (by omega)) hcw.2
          rw [← hlay] at hSr
          obtain ⟨c, hc⟩ : ∃ c, cg x.l2 k = c := ⟨_, rfl⟩
          simp only [hc] at hSr c0 c1 c2 hcw
          have hca := hcw.1
          have e32 : ((c.a : Nat) : Int).tmod 32 = ((c.a % 32 : Nat) : Int) := by rw [Int.tmod_eq_emod_of_nonneg (by omega)]; omega
          have e32b : ((c.a % 32 : Nat) : Int) = (c.a : Int) % 32 := by omega
          simp only [e32b] at hSr
          go_wp2
          go_still_tail 21, (by kernel_rfl)
          change wpList _ _ _ _ _ wr.drew
          go_wp2_with (go_at_call 21; (with_reducible refine hSr.mono ?_); (rintro e w10 ⟨rfl, hC10, hO10⟩))
          go_roundw
          case rel => exact ⟨k + 1, by go_num, by omega, hC10, (hO9.trans (only_below (bd1 (Below.refl _ _)))).trans (hO10.mono fun j hj => .inl hj)⟩
          case measure => first | (simp [intOf]; done) | (simp [intOf]; omega)
        · obtain rfl : k = x.l2.length := by omega
          go_wp2
          go_ret2
          exact ⟨⟨M, by rw [hMy]; rfl, by rw [hMy]; exact hyl, hC9, hall⟩, below_trans' hBb (Nat.le_refl _) hB9⟩
end Go.Proofs.YtfaacmcnefbgcaaGreatDoor.m4

/- Contract of alive of layer 5: the chapter's examples. -/
namespace Go.Proofs.YtfaacmcnefbgcaaGreatDoor.m4
open Go.ChangeShapes Go.WideShapes Go.ChangeAt Go.RowKit
set_option linter.unusedVariables false
/-- What Built leaves, of a machine that lies behind what was there. -/
def BxP (w : World) (n : Nat) (s : Ms) (e : Ending) (w' : World) : Prop := ∃ M : Mc, e = .returned (.tuple #[.pointer (some ⟨M.cb, 0, none⟩), .pointer (some ⟨M.x.mb, 0, none⟩)]) ∧ M.x.l = rgs n ∧ Cx w w' M s ∧ ∀ j, M.all j → w.heap.size ≤ j
theorem rgM_told (x : Su) : ∀ k, (x.rgM k).told = []
  | 0 => rfl
  | k + 1 => rgM_told x k
theorem ms_tk (x : Su) : x.ms.tk := by unfold Ms.tk Su.ms; rw [rgM_told]; exact Nat.zero_le _
theorem built_cx (x : Su) (hx : x.small) (w : World) (h : SuIn w x) : Calls Tryz.prog 6 #[x.val] w (BxP w x.l1.length x.ms) :=
  (built_any x hx w h).mono fun e w' ⟨⟨M, he, hl, hc, ha⟩, hb⟩ => ⟨M, he, hl, ⟨hc, hb, fun j hj => ha j (.inl hj), ms_tk x⟩, ha⟩
/-- Instructions in a block. -/
def rowIn (l : List In) : List Value := l.flatMap fun x => [.int .u8 (x.op : Nat), .int .u8 (x.rd : Nat), .int .u8 (x.rs1 : Nat), .int .u8 (x.rs2 : Nat), .int .i64 x.imm]
theorem In0_wf : In0.wf := by unfold In0 In.wf; decide
def su (a : Option Addr) (c : Nat) (l : List In) : Su := ⟨a, c, l, none, 0, [], none, 0, []⟩
theorem su_ms (a : Option Addr) (c : Nat) (l : List In) : (su a c l).ms = (su none 0 l).ms := rfl
theorem su_in {w : World} {a : Option Addr} {c : Nat} {l : List In} (h : InOf w a l) (hw : ∀ i, (ig l i).wf) : SuIn w (su a c l) :=
  ⟨h, fun i hi => absurd hi (Nat.not_lt_zero _), fun i hi => absurd hi (Nat.not_lt_zero _), hw, fun i => (by show (0 : Nat) < 256 ∧ (0 : Nat) < 18446744073709551616; omega), fun i => (by show (0 : Nat) < 256 ∧ (0 : Nat) < 18446744073709551616; omega)⟩
def l5 : List In := [⟨15, 10, 0, 0, 7⟩, ⟨15, 17, 0, 0, 4⟩, ⟨34, 0, 0, 0, 0⟩, ⟨15, 17, 0, 0, 0⟩, ⟨34, 0, 0, 0, 0⟩]
def l1 : List In := [⟨32, 0, 0, 0, 0⟩]
theorem l5_wf (i : Nat) : (ig l5 i).wf := by
  match i with
  | 0 => unfold ig l5 In.wf; decide
  | 1 => unfold ig l5 In.wf; decide
  | 2 => unfold ig l5 In.wf; decide
  | 3 => unfold ig l5 In.wf; decide
  | 4 => unfold ig l5 In.wf; decide
  | k + 5 => exact In0_wf
theorem l1_wf (i : Nat) : (ig l1 i).wf := by
  match i with
  | 0 => unfold ig l1 In.wf; decide
  | k + 1 => exact In0_wf
theorem run5' : ((runF (rgs 5) (su none 0 l5).ms 100).1 == 0 && (runF (rgs 5) (su none 0 l5).ms 100).2.ov && (runF (rgs 5) (su none 0 l5).ms 100).2.cd == 0 && (runF (rgs 5) (su none 0 l5).ms 100).2.wr == 0 && (runF (rgs 5) (su none 0 l5).ms 100).2.told == [(7, false)] && (runF (rgs 5) (su none 0 l5).ms 100).2.tr.length == 5) = true := by decide +kernel
theorem run1' : ((runF (rgs 1) (su none 0 l1).ms 100).1 == 52 && (runF (rgs 1) (su none 0 l1).ms 100).2.tr.length == 100) = true := by decide +kernel
/-- What a run leaves, whose end is known. -/
def RnP (W w : World) (M : Mc) (k : Int) (s : Ms) (e : Ending) (w' : World) : Prop := ∃ M', Mc.nxt w M M' ∧ e = .returned (.int .i64 k) ∧ Cx W w' M' s ∧ Only M.own w w'
theorem run5 : ∃ s r : Ms, (su none 0 l5).ms = s ∧ r.ov = true ∧ r.cd = 0 ∧ r.wr = 0 ∧ r.told = [(7, false)] ∧ r.tr.length = 5 ∧ ∀ W w M, Tb W → Cx W w M s → M.x.l = rgs 5 → Calls Tryz.prog 11 #[.pointer (some ⟨M.cb, 0, none⟩), .int .i64 100] w (RnP W w M 0 r) := by
  have h := run5'
  simp only [Bool.and_eq_true, beq_iff_eq] at h
  obtain ⟨⟨⟨⟨⟨h1, h2⟩, h3⟩, h4⟩, h5⟩, h6⟩ := h
  refine ⟨_, _, rfl, h2, h3, h4, h5, h6, fun W w M hT hC hl => (run_any hT hC 100).mono fun e w' ⟨M', hn, he, hc, ho⟩ => ?_⟩
  rw [hl] at he hc
  exact ⟨M', hn, by rw [he, h1], hc, ho⟩
theorem run1 : ∃ s r : Ms, (su none 0 l1).ms = s ∧ r.tr.length = 100 ∧ ∀ W w M, Tb W → Cx W w M s → M.x.l = rgs 1 → Calls Tryz.prog 11 #[.pointer (some ⟨M.cb, 0, none⟩), .int .i64 100] w (RnP W w M 52 r) := by
  have h := run1'
  simp only [Bool.and_eq_true, beq_iff_eq] at h
  refine ⟨_, _, rfl, h.2, fun W w M hT hC hl => (run_any hT hC 100).mono fun e w' ⟨M', hn, he, hc, ho⟩ => ?_⟩
  rw [hl] at he hc
  exact ⟨M', hn, by rw [he, h.1], hc, ho⟩
theorem built5 (w : World) (o : Obj) : Calls Tryz.prog 6 #[.agg #[.slice (some ⟨w.heap.size, 0, none⟩) 5 5, .slice none 0 0, .slice none 0 0]] ((w.alloc (.cells #[.int .u8 15, .int .u8 10, .int .u8 0, .int .u8 0, .int .i64 7, .int .u8 15, .int .u8 17, .int .u8 0, .int .u8 0, .int .i64 4, .int .u8 34, .int .u8 0, .int .u8 0, .int .u8 0, .int .i64 0, .int .u8 15, .int .u8 17, .int .u8 0, .int .u8 0, .int .i64 0, .int .u8 34, .int .u8 0, .int .u8 0, .int .u8 0, .int .i64 0] 48)).alloc o) (BxP ((w.alloc (.cells #[.int .u8 15, .int .u8 10, .int .u8 0, .int .u8 0, .int .i64 7, .int .u8 15, .int .u8 17, .int .u8 0, .int .u8 0, .int .i64 4, .int .u8 34, .int .u8 0, .int .u8 0, .int .u8 0, .int .i64 0, .int .u8 15, .int .u8 17, .int .u8 0, .int .u8 0, .int .i64 0, .int .u8 34, .int .u8 0, .int .u8 0, .int .u8 0, .int .i64 0] 48)).alloc o) 5 (su none 0 l5).ms) := by
  have hc := fun k => nwc w #[.int .u8 15, .int .u8 10, .int .u8 0, .int .u8 0, .int .i64 7, .int .u8 15, .int .u8 17, .int .u8 0, .int .u8 0, .int .i64 4, .int .u8 34, .int .u8 0, .int .u8 0, .int .u8 0, .int .i64 0, .int .u8 15, .int .u8 17, .int .u8 0, .int .u8 0, .int .i64 0, .int .u8 34, .int .u8 0, .int .u8 0, .int .u8 0, .int .i64 0] 48 k
  refine built_cx (su (some ⟨w.heap.size, 0, none⟩) 5 l5) ⟨by show 5 ≤ 200; omega, by show 0 ≤ 100; omega, by show 0 ≤ 600; omega⟩ _ (su_in (fun i hi => ⟨_, 0, rfl, ?_⟩) l5_wf)
  refine inAt5.of (w := w.alloc (.cells #[.int .u8 15, .int .u8 10, .int .u8 0, .int .u8 0, .int .i64 7, .int .u8 15, .int .u8 17, .int .u8 0, .int .u8 0, .int .i64 4, .int .u8 34, .int .u8 0, .int .u8 0, .int .u8 0, .int .i64 0, .int .u8 15, .int .u8 17, .int .u8 0, .int .u8 0, .int .i64 0, .int .u8 34, .int .u8 0, .int .u8 0, .int .u8 0, .int .i64 0] 48)) ?_ (aBelow (Below.refl _ _) _)
  have hi5 : i < 5 := hi
  have hcs : i = 0 ∨ i = 1 ∨ i = 2 ∨ i = 3 ∨ i = 4 := by omega
  rcases hcs with rfl | rfl | rfl | rfl | rfl
  · exact ⟨hc 0, hc 1, hc 2, hc 3, hc 4⟩
  · exact ⟨hc 5, hc 6, hc 7, hc 8, hc 9⟩
  · exact ⟨hc 10, hc 11, hc 12, hc 13, hc 14⟩
  · exact ⟨hc 15, hc 16, hc 17, hc 18, hc 19⟩
  · exact ⟨hc 20, hc 21, hc 22, hc 23, hc 24⟩
theorem built1 (w : World) : Calls Tryz.prog 6 #[.agg #[.slice (some ⟨w.heap.size, 0, none⟩) 1 1, .slice none 0 0, .slice none 0 0]] (w.alloc (.cells #[.int .u8 32, .int .u8 0, .int .u8 0, .int .u8 0, .int .i64 0] 48)) (BxP (w.alloc (.cells #[.int .u8 32, .int .u8 0, .int .u8 0, .int .u8 0, .int .i64 0] 48)) 1 (su none 0 l1).ms) := by
  have hc := fun k => nwc w #[.int .u8 32, .int .u8 0, .int .u8 0, .int .u8 0, .int .i64 0] 48 k
  refine built_cx (su (some ⟨w.heap.size, 0, none⟩) 1 l1) ⟨by show 1 ≤ 200; omega, by show 0 ≤ 100; omega, by show 0 ≤ 600; omega⟩ _ (su_in (fun i hi => ⟨_, 0, rfl, ?_⟩) l1_wf)
  have hi5 : i < 1 := hi
  obtain rfl : i = 0 := by omega
  exact ⟨hc 0, hc 1, hc 2, hc 3, hc 4⟩
/-- One told number, in cells. -/
theorem told1 {w : World} {b : Nat} {v : Value} {p : Nat × Bool} (h : w.ownsRow b 54 2 v [p].length (tlL [p])) : ∃ g cap, v = .slice (some ⟨g, 0, none⟩) 1 cap ∧ w.cell? ⟨g, 0, none⟩ = some (.int .u64 (p.1 : Nat)) ∧ w.cell? ⟨g, 1, none⟩ = some (.bool p.2) := by
  rcases h.2 with ⟨_, hn⟩ | ⟨g, cap, cur, rfl, hb, hg, hr⟩
  · cases hn
  · exact ⟨g, cap, rfl, by have := h.cells (g := g) rfl 0 _ rfl; rwa [addp] at this, by have := h.cells (g := g) rfl 1 _ rfl; rwa [addp] at this⟩

set_option maxRecDepth 100000 in
set_option maxHeartbeats 4000000 in
theorem alive_any (w : World) (hT : Tb w) : Calls Tryz.prog 5 #[] w fun e w' => e = .returned (.bool true) ∧ Below w.heap.size w w' := by
  obtain ⟨s5, r5, hs5, a1, a2, a3, a4, a5, hr5⟩ := run5
  obtain ⟨s1, r1, hs1, b1, hr1⟩ := run1
  have hb5 := fun w o => built5 w o
  have hb1 := fun w => built1 w
  rw [hs5] at hb5
  rw [hs1] at hb1
  go_enter Tryz.func5, Tryz.ntmps5
  go_wp2_with (first
    | (go_at_call 6; (with_reducible refine (hb5 _ _).mono ?_); (rintro e w1 ⟨M, rfl, hl, hC, hA⟩); have hB0 := (aBelow (aBelow (Below.refl w.heap.size w) (.cells #[.int .u8 15, .int .u8 10, .int .u8 0, .int .u8 0, .int .i64 7, .int .u8 15, .int .u8 17, .int .u8 0, .int .u8 0, .int .i64 4, .int .u8 34, .int .u8 0, .int .u8 0, .int .u8 0, .int .i64 0, .int .u8 15, .int .u8 17, .int .u8 0, .int .u8 0, .int .i64 0, .int .u8 34, .int .u8 0, .int .u8 0, .int .u8 0, .int .i64 0] 48)) (.cells #[.slice (some ⟨w.heap.size, 0, none⟩) 5 5, .slice none 0 0, .slice none 0 0] 25)); have hB1 := below_trans' hB0 (Nat.le_refl _) hC.b; have hR := hr5 _ _ _ (hT.of hB0) hC hl)
    | (go_at_call 11; (with_reducible refine hR.mono ?_); (rintro e w2 ⟨M2, hn, rfl, hC2, hO⟩); have hB2 := below_trans' hB0 (Nat.le_refl _) hC2.b; have hOv := over_any hC2.c; have hTo := told_any hC2.c hC2.k; rw [hn.1, a1, a2, a3] at hOv; rw [hn.1, a4] at hTo)
    | (go_at_call 12; (with_reducible refine hOv.mono ?_); (rintro e w3 ⟨rfl, hb3⟩); have hC3 := hC2.of hb3; have hB3 := below_trans' hB2 (Nat.le_refl _) hb3; have hTo := told_any hC3.c hC3.k; rw [hn.1, a4] at hTo)
    | (go_at_call 13; (with_reducible refine hTo.mono ?_); (rintro e w4 ⟨⟨v, rfl, hv⟩, hb4⟩); obtain ⟨gt, ct, rfl, t0, t1⟩ := told1 hv; have hC4 := hC3.of hb4; have hB4 := below_trans' hB3 (Nat.le_refl _) hb4; have hB5 := aBelow hB4 (.cells #[.int .u8 32, .int .u8 0, .int .u8 0, .int .u8 0, .int .i64 0] 48); have hC5 := hC4.of (aBelow (Below.refl _ _) (.cells #[.int .u8 32, .int .u8 0, .int .u8 0, .int .u8 0, .int .i64 0] 48)); have t0 := stay (aBelow (Below.refl _ _) (.cells #[.int .u8 32, .int .u8 0, .int .u8 0, .int .u8 0, .int .i64 0] 48)) t0; have t1 := stay (aBelow (Below.refl _ _) (.cells #[.int .u8 32, .int .u8 0, .int .u8 0, .int .u8 0, .int .i64 0] 48)) t1)
    | (go_at_call 6; (with_reducible refine (hb1 _).mono ?_); (rintro e w6 ⟨D, rfl, dl, hD, dA⟩); have hR := hr1 _ _ _ (hT.of hB5) hD dl)
    | (go_at_call 11; (with_reducible refine hR.mono ?_); (rintro e w7 ⟨D2, dn, rfl, hD2, dO⟩); have hC7 := hC5.of hD2.b; have hB7 := below_trans' hB5 (Nat.le_refl _) hD2.b; have t0 := stay hD2.b t0; have t1 := stay hD2.b t1; have hTr := trace_any hC7.c; rw [hn.1, a5] at hTr)
    | (go_at_call 14; (with_reducible refine hTr.mono ?_); (rintro e w8 ⟨⟨v8, rfl, hv8⟩, hb8⟩); obtain ⟨ga, gc, rfl⟩ := own_form hv8; have hC8 := hC7.of hb8; have hB8 := below_trans' hB7 (Nat.le_refl _) hb8; have hTd := trace_any (hD2.of hb8).c; rw [dn.1, b1] at hTd)
    | (go_at_call 14; (with_reducible refine hTd.mono ?_); (rintro e w9 ⟨⟨v9, rfl, hv9⟩, hb9⟩); obtain ⟨gb, gd, rfl⟩ := own_form hv9; have hC9 := hC8.of hb9; have hB9 := below_trans' hB8 (Nat.le_refl _) hb9; have hSt := step_over hC9.c a1; rw [hn.1] at hSt)
    | (go_at_call 8; (with_reducible refine hSt.mono ?_); (rintro e w10 ⟨M3, hn3, rfl, hC10, hO10⟩)))
  go_ret
  exact ⟨rfl, hB9.trans (hO10.below (fun j hj => Nat.le_trans hB0.size (hC9.o j hj)) hB9.size)⟩
end Go.Proofs.YtfaacmcnefbgcaaGreatDoor.m4

/- A setup's code in plain numbers: what is fetched; a step of an instruction that has a word. -/
namespace Go.Proofs.YtfaacmcnefbgcaaGreatDoor.m4
open Go.ChangeShapes Go.WideShapes Go.ChangeAt Go.RowKit
set_option linter.unusedVariables false
theorem rgM_bv (x : Su) : ∀ k, (x.rgM k).bv = x.byB x.l3.length ∧ (x.rgM k).tv = x.byT x.l3.length ∧ (x.rgM k).pc = 4096 ∧ (x.rgM k).tr = [] ∧ (x.rgM k).ov = false ∧ (x.rgM k).cd = 0 ∧ (x.rgM k).wr = 0
  | 0 => ⟨rfl, rfl, rfl, rfl, rfl, rfl, rfl⟩
  | k + 1 => rgM_bv x k
theorem beg1 (n : Nat) : beg (rgs n) 1 = 4 * n + 4 := by unfold beg rgs; simp
/-- Bytes of the code stay as they were laid. -/
theorem byB_code (x : Su) (hx : x.l1.length ≤ 200) (q : Nat) (hq : q < 4 * x.l1.length + 4) : ∀ k, x.byB k q = x.cdB q ∧ x.byT k q = x.cdT q
  | 0 => ⟨rfl, rfl⟩
  | k + 1 => by
    obtain ⟨h1, h2⟩ := byB_code x hx q hq k
    have key : ∃ p, seO (rgs x.l1.length) (plN k (cg x.l3 k).a) 1 = some p ∧ 4 * x.l1.length + 4 ≤ p := by
      unfold seO
      by_cases h : k % 2 = 0
      · obtain ⟨a1, a2⟩ := plN_in k (cg x.l3 k).a h
        have hh := hit_in (n := x.l1.length) hx a1 a2 (m := 1) (by omega)
        rw [hh]
        exact ⟨_, rfl, by have := (pos_in hh).1; rw [beg1] at this; exact this⟩
      · obtain ⟨a1, a2⟩ := plN_arena k (cg x.l3 k).a h
        have hh := hit_arena (n := x.l1.length) hx a1 a2 (m := 1) (by omega)
        rw [hh]
        refine ⟨_, rfl, ?_⟩
        have h3 := (pos_in hh).1
        have h4 := beg_le (rgs x.l1.length) 2 1 (by omega) (by rw [rgs_len]; omega)
        rw [beg1] at h4
        omega
    obtain ⟨p, hp, hle⟩ := key
    constructor
    · show upO (seO (rgs x.l1.length) (plN k (cg x.l3 k).a) 1) (x.byB k) 1 (bAt (s1 (cg x.l3 k))) q = _
      rw [hp]
      simp only [upO]
      unfold upd
      rw [if_neg (by omega), h1]
    · show upO (seO (rgs x.l1.length) (plN k (cg x.l3 k).a) 1) (x.byT k) 1 (fun _ => (cg x.l3 k).t) q = _
      rw [hp]
      simp only [upO]
      unfold upd
      rw [if_neg (by omega), h2]
theorem cdB_at (x : Su) (hx : x.l1.length ≤ 200) (q : Nat) (hq : q < 4 * x.l1.length) : x.cdB q = bAt (strOfNums (cdN x.l1)) q := by
  unfold Su.cdB seO
  rw [hit_code (p := 4096) (m := 4 * x.l1.length) hx (by omega) (by omega) (by omega)]
  simp only [upO]
  have hp : pos (rgs x.l1.length) 0 4096 (4 * x.l1.length) = 0 := by
    unfold pos off0
    have h0 : beg (rgs x.l1.length) 0 = 0 := rfl
    have h1 : (rg (rgs x.l1.length) 0).f = 4096 := rfl
    rw [h0, h1]; split <;> rfl
  rw [hp]
  unfold upd
  rw [if_pos (by omega), Nat.sub_zero]
theorem cdN_at : ∀ (l : List In) (j t : Nat), j < l.length → t < 4 → (cdN l).getD (4 * j + t) 0 = (b4 (cdW (ig l j))).getD t 0
  | [], j, t, hj, ht => absurd hj (Nat.not_lt_zero _)
  | x :: r, 0, t, hj, ht => by
    show (b4 (cdW x) ++ cdN r).getD (4 * 0 + t) 0 = (b4 (cdW x)).getD t 0
    rw [List.getD_eq_getElem?_getD, List.getD_eq_getElem?_getD, List.getElem?_append_left (by show 4 * 0 + t < 4; omega), Nat.mul_zero, Nat.zero_add]
  | x :: r, j + 1, t, hj, ht => by
    have ih := cdN_at r j t (by simpa using hj) ht
    show (b4 (cdW x) ++ cdN r).getD (4 * (j + 1) + t) 0 = (b4 (cdW (ig r j))).getD t 0
    rw [← ih, List.getD_eq_getElem?_getD, List.getD_eq_getElem?_getD, List.getElem?_append_right (by show 4 ≤ 4 * (j + 1) + t; omega)]
    congr 2
    show 4 * (j + 1) + t - 4 = 4 * j + t
    omega
theorem bAt_nums (l : List Int) (k : Nat) : bAt (strOfNums l) k = (l.getD k 0).toNat % 256 := by
  unfold bAt
  rw [strOfNums_data, List.getD_eq_getElem?_getD, List.getD_eq_getElem?_getD, List.getElem?_map]
  cases l[k]? with
  | none => rfl
  | some v => simp [UInt8.toNat_ofNat']
theorem word_at (x : Su) (hx : x.l1.length ≤ 200) (bv : Nat → Nat) (hb : ∀ q, q < 4 * x.l1.length → bv q = x.cdB q) (j : Nat) (hj : j < x.l1.length) : ldv bv (4 * j) 4 = cdW (ig x.l1 j) := by
  have hw := cdW_lt (ig x.l1 j)
  have e : ∀ t, t < 4 → bv (4 * j + t) = ((b4 (cdW (ig x.l1 j))).getD t 0).toNat % 256 := fun t ht => by
    rw [hb _ (by omega), cdB_at x hx _ (by omega), bAt_nums, cdN_at _ _ _ hj ht]
  show bv (4 * j) + 256 * (bv (4 * j + 1) + 256 * (bv (4 * j + 1 + 1) + 256 * (bv (4 * j + 1 + 1 + 1) + 256 * 0))) = _
  have e0 := e 0 (by omega)
  have e1 := e 1 (by omega)
  have e2 := e 2 (by omega)
  have e3 := e 3 (by omega)
  rw [Nat.add_zero] at e0
  rw [show 4 * j + 1 + 1 = 4 * j + 2 by omega, show 4 * j + 2 + 1 = 4 * j + 3 by omega, e0, e1, e2, e3]
  simp only [b4, List.getD_cons_zero, List.getD_cons_succ]
  omega
/-- What is fetched of a setup's code. -/
theorem fetch_at (x : Su) (hx : x.l1.length ≤ 200) (bv : Nat → Nat) (hb : ∀ q, q < 4 * x.l1.length → bv q = x.cdB q) (j : Nat) (hj : j < x.l1.length) : feF (rgs x.l1.length) bv (4096 + 4 * j) = (cdW (ig x.l1 j), 0) := by
  unfold feF
  rw [if_neg (by omega), hit_code (p := 4096 + 4 * j) (m := 4) hx (by omega) (by omega) (by omega)]
  simp only
  rw [if_pos (show (rg (rgs x.l1.length) 0).k = 1 from rfl)]
  have hp : pos (rgs x.l1.length) 0 (4096 + 4 * j) 4 = 4 * j := by
    unfold pos off0
    have h0 : beg (rgs x.l1.length) 0 = 0 := rfl
    have h1 : (rg (rgs x.l1.length) 0).f = 4096 := rfl
    rw [h0, h1, if_neg (by omega)]; omega
  rw [hp, word_at x hx bv hb j hj]
theorem ms_code (x : Su) (hx : x.l1.length ≤ 200) (q : Nat) (hq : q < 4 * x.l1.length) : x.ms.bv q = x.cdB q := by
  unfold Su.ms
  rw [(rgM_bv x _).1]
  exact (byB_code x hx q (by omega) _).1
/-- A step of an instruction that has a word. -/
theorem stF_do {l : List Rg} {s : Ms} {y : In} (ho : s.ov = false) (hn : s.tr.length ≠ 1048576) (hf : feF l s.bv s.pc = (cdW y, 0)) (hy : y.ok = true) : stF l s = exE s (exF l s y) := by
  have hd : decN (cdW y) = some y := decN_some ⟨hy, by unfold cdW; rw [if_pos hy]⟩
  unfold stF
  rw [if_neg (by rw [ho]; decide), if_neg hn]
  unfold doF
  rw [hf, if_pos rfl]
  simp only [hd]
end Go.Proofs.YtfaacmcnefbgcaaGreatDoor.m4

/- Rows of what was seen, and told, as cells; contracts of SameTrace, SameTold: of rows that are the same. -/
namespace Go.Proofs.YtfaacmcnefbgcaaGreatDoor.m4
open Go.ChangeShapes Go.WideShapes Go.ChangeAt Go.RowKit
set_option linter.unusedVariables false
def Sn0 : Sn := ⟨0, 0, 0, 0, false⟩
def sng (l : List Sn) (i : Nat) : Sn := l.getD i Sn0
def tlg (l : List (Nat × Bool)) (i : Nat) : Nat × Bool := l.getD i (0, false)
def snAt (w : World) (g o : Nat) (n : Sn) : Prop := w.cell? ⟨g, o, none⟩ = some (.int .u64 (n.pc : Nat)) ∧ w.cell? ⟨g, o + 1, none⟩ = some (.int .u8 (n.k : Nat)) ∧ w.cell? ⟨g, o + 2, none⟩ = some (.int .u64 (n.a : Nat)) ∧ w.cell? ⟨g, o + 3, none⟩ = some (.int .u64 (n.b : Nat)) ∧ w.cell? ⟨g, o + 4, none⟩ = some (.bool n.t)
def tlAt (w : World) (g o : Nat) (p : Nat × Bool) : Prop := w.cell? ⟨g, o, none⟩ = some (.int .u64 (p.1 : Nat)) ∧ w.cell? ⟨g, o + 1, none⟩ = some (.bool p.2)
theorem snAt.of {w w' : World} {g o : Nat} {n : Sn} (h : snAt w g o n) (hb : Below w.heap.size w w') : snAt w' g o n := ⟨stay hb h.1, stay hb h.2.1, stay hb h.2.2.1, stay hb h.2.2.2.1, stay hb h.2.2.2.2⟩
theorem tlAt.of {w w' : World} {g o : Nat} {p : Nat × Bool} (h : tlAt w g o p) (hb : Below w.heap.size w w') : tlAt w' g o p := ⟨stay hb h.1, stay hb h.2⟩
/-- A row, as a slice has it: where it lies matters where there is one. -/
def SnOf (w : World) (a : Option Addr) (l : List Sn) : Prop := ∀ i < l.length, ∃ g o, a = some ⟨g, o, none⟩ ∧ snAt w g (o + i * 5) (sng l i)
def TlOf (w : World) (a : Option Addr) (l : List (Nat × Bool)) : Prop := ∀ i < l.length, ∃ g o, a = some ⟨g, o, none⟩ ∧ tlAt w g (o + i * 2) (tlg l i)
theorem SnOf.of {w w' : World} {a : Option Addr} {l : List Sn} (h : SnOf w a l) (hb : Below w.heap.size w w') : SnOf w' a l := fun i hi => by
  obtain ⟨g, o, e, hc⟩ := h i hi
  exact ⟨g, o, e, hc.of hb⟩
theorem TlOf.of {w w' : World} {a : Option Addr} {l : List (Nat × Bool)} (h : TlOf w a l) (hb : Below w.heap.size w w') : TlOf w' a l := fun i hi => by
  obtain ⟨g, o, e, hc⟩ := h i hi
  exact ⟨g, o, e, hc.of hb⟩
theorem snL_at : ∀ (l : List Sn) (i t : Nat), i < l.length → t < 5 → (snL l)[i * 5 + t]? = (snC (sng l i))[t]?
  | [], i, t, hi, ht => absurd hi (Nat.not_lt_zero _)
  | x :: r, 0, t, hi, ht => by
    show (snC x ++ snL r)[0 * 5 + t]? = (snC x)[t]?
    rw [Nat.zero_mul, Nat.zero_add, List.getElem?_append_left (by show t < 5; exact ht)]
  | x :: r, i + 1, t, hi, ht => by
    have ih := snL_at r i t (by simpa using hi) ht
    show (snC x ++ snL r)[(i + 1) * 5 + t]? = (snC (sng r i))[t]?
    rw [← ih, List.getElem?_append_right (by show 5 ≤ (i + 1) * 5 + t; omega)]
    congr 1
    show (i + 1) * 5 + t - 5 = i * 5 + t
    omega
theorem tlL_at : ∀ (l : List (Nat × Bool)) (i t : Nat), i < l.length → t < 2 → (tlL l)[i * 2 + t]? = (tlC (tlg l i))[t]?
  | [], i, t, hi, ht => absurd hi (Nat.not_lt_zero _)
  | x :: r, 0, t, hi, ht => by
    show (tlC x ++ tlL r)[0 * 2 + t]? = (tlC x)[t]?
    rw [Nat.zero_mul, Nat.zero_add, List.getElem?_append_left (by show t < 2; exact ht)]
  | x :: r, i + 1, t, hi, ht => by
    have ih := tlL_at r i t (by simpa using hi) ht
    show (tlC x ++ tlL r)[(i + 1) * 2 + t]? = (tlC (tlg r i))[t]?
    rw [← ih, List.getElem?_append_right (by show 2 ≤ (i + 1) * 2 + t; omega)]
    congr 1
    show (i + 1) * 2 + t - 2 = i * 2 + t
    omega
theorem sn_of {w : World} {b : Nat} {v : Value} {l : List Sn} (h : w.ownsRow b 82 5 v l.length (snL l)) : ∃ a c, v = .slice a l.length c ∧ SnOf w a l := by
  rcases h.2 with ⟨hv, hn⟩ | ⟨g, cap, cur, hv, hb, hg, hr⟩
  · refine ⟨none, 0, by rw [hv, hn], fun i hi => by omega⟩
  · refine ⟨some ⟨g, 0, none⟩, cap, hv, fun i hi => ⟨g, 0, rfl, ?_⟩⟩
    have key : ∀ t, t < 5 → w.cell? ⟨g, 0 + i * 5 + t, none⟩ = (snC (sng l i))[t]? := fun t ht => by
      have e := snL_at l i t hi ht
      obtain ⟨u, hu⟩ : ∃ u, (snC (sng l i))[t]? = some u := ⟨_, List.getElem?_eq_getElem (by show t < 5; exact ht)⟩
      rw [hu] at e ⊢
      have := h.cells (g := g) (by rw [hv]; rfl) _ u e
      rw [addp] at this
      rw [Nat.zero_add] at this ⊢
      exact this
    exact ⟨key 0 (by omega), key 1 (by omega), key 2 (by omega), key 3 (by omega), key 4 (by omega)⟩
theorem tl_of {w : World} {b : Nat} {v : Value} {l : List (Nat × Bool)} (h : w.ownsRow b 54 2 v l.length (tlL l)) : ∃ a c, v = .slice a l.length c ∧ TlOf w a l := by
  rcases h.2 with ⟨hv, hn⟩ | ⟨g, cap, cur, hv, hb, hg, hr⟩
  · refine ⟨none, 0, by rw [hv, hn], fun i hi => by omega⟩
  · refine ⟨some ⟨g, 0, none⟩, cap, hv, fun i hi => ⟨g, 0, rfl, ?_⟩⟩
    have key : ∀ t, t < 2 → w.cell? ⟨g, 0 + i * 2 + t, none⟩ = (tlC (tlg l i))[t]? := fun t ht => by
      have e := tlL_at l i t hi ht
      obtain ⟨u, hu⟩ : ∃ u, (tlC (tlg l i))[t]? = some u := ⟨_, List.getElem?_eq_getElem (by show t < 2; exact ht)⟩
      rw [hu] at e ⊢
      have := h.cells (g := g) (by rw [hv]; rfl) _ u e
      rw [addp] at this
      rw [Nat.zero_add] at this ⊢
      exact this
    exact ⟨key 0 (by omega), key 1 (by omega)⟩
set_option maxRecDepth 100000 in
set_option maxHeartbeats 1000000 in
theorem same_trace (l : List Sn) (a b : Option Addr) (c d : Nat) (hn : l.length ≤ 1048577) (w : World) (h1 : SnOf w a l) (h2 : SnOf w b l) : Calls Tryz.prog 35 #[.slice a l.length c, .slice b l.length d] w fun e w' => e = .returned (.bool true) ∧ Below w.heap.size w w' := by
  go_enter Tryz.func35, Tryz.ntmps35
  go_wp2
  go_loopw [5] (fun i wr => ∃ k : Nat, i = .int .i64 k ∧ k ≤ l.length ∧ Below w.heap.size w wr) (fun i _ => l.length - (intOf i).toNat)
  case atStart => exact ⟨0, rfl, Nat.zero_le _, Below.refl _ _⟩
  case round =>
    obtain ⟨k, rfl, hk, hB⟩ := hrel
    by_cases hlt : k < l.length
    · obtain ⟨g1, o1, rfl, a0, a1, a2, a3, a4⟩ := h1 k hlt
      obtain ⟨g2, o2, rfl, b0, b1, b2, b3, b4⟩ := h2 k hlt
      have a0 := stay hB a0
      have a1 := stay hB a1
      have a2 := stay hB a2
      have a3 := stay hB a3
      have a4 := stay hB a4
      have b0 := stay hB b0
      have b1 := stay hB b1
      have b2 := stay hB b2
      have b3 := stay hB b3
      have b4 := stay hB b4
      have i0 : (0 : Int) ≤ (k : Int) := by omega
      have i1 : (k : Int) < (l.length : Int) := by omega
      generalize sng l k = n at *
      go_wp2
      go_quiet (fail)
      go_wp2
      go_roundw
      case rel => exact ⟨k + 1, by go_num, by omega, bdN hB _⟩
      case measure => first | (simp [intOf]; done) | (simp [intOf]; omega)
    · obtain rfl : k = l.length := by omega
      go_wp2
      go_ret
      exact ⟨rfl, hB⟩
set_option maxRecDepth 100000 in
set_option maxHeartbeats 1000000 in
theorem same_told (l : List (Nat × Bool)) (a b : Option Addr) (c d : Nat) (hn : l.length ≤ 1048577) (w : World) (h1 : TlOf w a l) (h2 : TlOf w b l) : Calls Tryz.prog 34 #[.slice a l.length c, .slice b l.length d] w fun e w' => e = .returned (.bool true) ∧ Below w.heap.size w w' := by
  go_enter Tryz.func34, Tryz.ntmps34
  go_wp2
  go_loopw [5] (fun i wr => ∃ k : Nat, i = .int .i64 k ∧ k ≤ l.length ∧ Below w.heap.size w wr) (fun i _ => l.length - (intOf i).toNat)
  case atStart => exact ⟨0, rfl, Nat.zero_le _, Below.refl _ _⟩
  case round =>
    obtain ⟨k, rfl, hk, hB⟩ := hrel
    by_cases hlt : k < l.length
    · obtain ⟨g1, o1, rfl, a0, a1⟩ := h1 k hlt
      obtain ⟨g2, o2, rfl, b0, b1⟩ := h2 k hlt
      have a0 := stay hB a0
      have a1 := stay hB a1
      have b0 := stay hB b0
      have b1 := stay hB b1
      have i0 : (0 : Int) ≤ (k : Int) := by omega
      have i1 : (k : Int) < (l.length : Int) := by omega
      generalize tlg l k = n at *
      go_wp2
      go_quiet (fail)
      go_wp2
      go_roundw
      case rel => exact ⟨k + 1, by go_num, by omega, bdN hB _⟩
      case measure => first | (simp [intOf]; done) | (simp [intOf]; omega)
    · obtain rfl : k = l.length := by omega
      go_wp2
      go_ret
      exact ⟨rfl, hB⟩
/-- Two machines, that share no block; of what a call has made. -/
structure Tm (W w : World) (M D : Mc) (s t : Ms) : Prop where
  a : Cx W w M s
  b : Cx W w D t
  dj : ∀ j, M.all j → ¬ D.all j
theorem Tm.of {W w w' : World} {M D : Mc} {s t : Ms} (h : Tm W w M D s t) (hb : Below w.heap.size w w') : Tm W w' M D s t := ⟨h.a.of hb, h.b.of hb, h.dj⟩
theorem Cx.base {W W' w : World} {M : Mc} {s : Ms} (h : Cx W' w M s) (hb : Below W.heap.size W W') : Cx W w M s := ⟨h.c, below_trans' hb (Nat.le_refl _) h.b, fun j hj => Nat.le_trans hb.size (h.o j hj), h.k⟩
theorem nxt_all {w : World} {M M' : Mc} (h : Mc.nxt w M M') {j : Nat} (hj : M'.all j) : M.all j ∨ w.heap.size ≤ j := by
  rcases hj with hj | hj | hj
  · rcases h.2.2 j hj with h1 | h1
    · exact .inl (.inl h1)
    · exact .inr h1
  · rw [h.2.1] at hj; exact .inl (.inr (.inl hj))
  · rw [h.2.1] at hj; exact .inl (.inr (.inr hj))
theorem Tm.left {W w w' : World} {M M' D : Mc} {s s' t : Ms} (h : Tm W w M D s t) (hn : Mc.nxt w M M') (hc : Cx W w' M' s') (ho : Only M.own w w') : Tm W w' M' D s' t :=
  ⟨hc, h.b.only ho (fun j hj hm => h.dj j (.inl hm) hj) h.a.o, fun j hj hd => by
    rcases nxt_all hn hj with h1 | h1
    · exact h.dj j h1 hd
    · have := h.b.c.all_lt hd; omega⟩
theorem Tm.right {W w w' : World} {M D D' : Mc} {s t t' : Ms} (h : Tm W w M D s t) (hn : Mc.nxt w D D') (hc : Cx W w' D' t') (ho : Only D.own w w') : Tm W w' M D' s t' :=
  ⟨h.a.only ho (fun j hj hm => h.dj j hj (.inl hm)) h.b.o, hc, fun j hj hd => by
    rcases nxt_all hn hd with h1 | h1
    · exact h.dj j hj h1
    · have := h.a.c.all_lt hj; omega⟩
theorem trace_row {W w : World} {M : Mc} {s : Ms} (h : Cx W w M s) : Calls Tryz.prog 14 #[.pointer (some ⟨M.cb, 0, none⟩)] w fun e w' => (∃ a c, e = .returned (.slice a s.tr.length c) ∧ SnOf w' a s.tr) ∧ Below w.heap.size w w' :=
  (trace_any h.c).mono fun e w' ⟨⟨v, he, hv⟩, hb⟩ => by
    obtain ⟨a, c, rfl, hr⟩ := sn_of hv
    exact ⟨⟨a, c, he, hr⟩, hb⟩
theorem told_row {W w : World} {M : Mc} {s : Ms} (h : Cx W w M s) : Calls Tryz.prog 13 #[.pointer (some ⟨M.cb, 0, none⟩)] w fun e w' => (∃ a c, e = .returned (.slice a s.told.length c) ∧ TlOf w' a s.told) ∧ Below w.heap.size w w' :=
  (told_any h.c h.k).mono fun e w' ⟨⟨v, he, hv⟩, hb⟩ => by
    obtain ⟨a, c, rfl, hr⟩ := tl_of hv
    exact ⟨⟨a, c, he, hr⟩, hb⟩
end Go.Proofs.YtfaacmcnefbgcaaGreatDoor.m4
