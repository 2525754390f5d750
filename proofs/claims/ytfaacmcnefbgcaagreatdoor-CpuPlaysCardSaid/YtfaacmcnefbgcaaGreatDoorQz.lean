/- What the statements of layer 5 set up: rows of instructions and of cells; contracts of heavy, place, regions, code. -/
import Derived.Test.YtfaacmcnefbgcaaGreatDoorQx
import Derived.Test.YtfaacmcnefbgcaaGreatDoorJh
namespace Go.Proofs.YtfaacmcnefbgcaaGreatDoor.m4
open Go.ChangeShapes Go.WideShapes Go.ChangeAt Go.RowKit
set_option linter.unusedVariables false
/-- What a register, or a byte, has at first. -/
structure Ce where
  a : Nat
  v : Nat
  t : Bool
def Ce.wf (c : Ce) : Prop := c.a < 256 ∧ c.v < 18446744073709551616
def Ce0 : Ce := ⟨0, 0, false⟩
def cg (l : List Ce) (i : Nat) : Ce := l.getD i Ce0
def In0 : In := ⟨0, 0, 0, 0, 0⟩
def ig (l : List In) (i : Nat) : In := l.getD i In0
def ceAt (w : World) (b o : Nat) (x : Ce) : Prop := w.cell? ⟨b, o, none⟩ = some (.int .u8 (x.a : Nat)) ∧ w.cell? ⟨b, o + 1, none⟩ = some (.int .u64 (x.v : Nat)) ∧ w.cell? ⟨b, o + 2, none⟩ = some (.bool x.t)
theorem ceAt.of {w w' : World} {b o : Nat} {x : Ce} (h : ceAt w b o x) (hb : Below w.heap.size w w') : ceAt w' b o x := ⟨stay hb h.1, stay hb h.2.1, stay hb h.2.2⟩
def inAt5 (w : World) (b o : Nat) (x : In) : Prop := w.cell? ⟨b, o, none⟩ = some (.int .u8 (x.op : Nat)) ∧ w.cell? ⟨b, o + 1, none⟩ = some (.int .u8 (x.rd : Nat)) ∧ w.cell? ⟨b, o + 2, none⟩ = some (.int .u8 (x.rs1 : Nat)) ∧ w.cell? ⟨b, o + 3, none⟩ = some (.int .u8 (x.rs2 : Nat)) ∧ w.cell? ⟨b, o + 4, none⟩ = some (.int .i64 x.imm)
theorem inAt5.of {w w' : World} {b o : Nat} {x : In} (h : inAt5 w b o x) (hb : Below w.heap.size w w') : inAt5 w' b o x := ⟨stay hb h.1, stay hb h.2.1, stay hb h.2.2.1, stay hb h.2.2.2.1, stay hb h.2.2.2.2⟩
/-- A row of cells, of instructions, as a slice has it: the address matters where there is one. -/
def CeOf (w : World) (a : Option Addr) (l : List Ce) : Prop := ∀ i < l.length, ∃ b o, a = some ⟨b, o, none⟩ ∧ ceAt w b (o + i * 3) (cg l i)
def InOf (w : World) (a : Option Addr) (l : List In) : Prop := ∀ i < l.length, ∃ b o, a = some ⟨b, o, none⟩ ∧ inAt5 w b (o + i * 5) (ig l i)
theorem CeOf.of {w w' : World} {a : Option Addr} {l : List Ce} (h : CeOf w a l) (hb : Below w.heap.size w w') : CeOf w' a l := fun i hi => by
  obtain ⟨b, o, ha, hc⟩ := h i hi
  exact ⟨b, o, ha, hc.of hb⟩
theorem InOf.of {w w' : World} {a : Option Addr} {l : List In} (h : InOf w a l) (hb : Below w.heap.size w w') : InOf w' a l := fun i hi => by
  obtain ⟨b, o, ha, hc⟩ := h i hi
  exact ⟨b, o, ha, hc.of hb⟩
/-- A setup: where its rows lie, what they have. -/
structure Su where
  a1 : Option Addr
  c1 : Nat
  l1 : List In
  a2 : Option Addr
  c2 : Nat
  l2 : List Ce
  a3 : Option Addr
  c3 : Nat
  l3 : List Ce
def Su.val (x : Su) : Value := .agg #[.slice x.a1 x.l1.length x.c1, .slice x.a2 x.l2.length x.c2, .slice x.a3 x.l3.length x.c3]
structure SuIn (w : World) (x : Su) : Prop where
  i1 : InOf w x.a1 x.l1
  i2 : CeOf w x.a2 x.l2
  i3 : CeOf w x.a3 x.l3
  w1 : ∀ i, (ig x.l1 i).wf
  w2 : ∀ i, (cg x.l2 i).wf
  w3 : ∀ i, (cg x.l3 i).wf
theorem SuIn.of {w w' : World} {x : Su} (h : SuIn w x) (hb : Below w.heap.size w w') : SuIn w' x := ⟨h.i1.of hb, h.i2.of hb, h.i3.of hb, h.w1, h.w2, h.w3⟩
def Su.small (x : Su) : Prop := x.l1.length ≤ 200 ∧ x.l2.length ≤ 100 ∧ x.l3.length ≤ 600
theorem heavy_no (x : Su) (h : x.small) (w : World) : Calls Tryz.prog 4 #[x.val] w fun e w' => e = .returned (.bool false) ∧ Below w.heap.size w w' := by
  obtain ⟨h1, h2, h3⟩ := h
  have k1 : ¬ (200 : Int) < (x.l1.length : Int) := by omega
  have k2 : ¬ (100 : Int) < (x.l2.length : Int) := by omega
  have k3 : ¬ (600 : Int) < (x.l3.length : Int) := by omega
  unfold Su.val
  go_enter Tryz.func4, Tryz.ntmps4
  go_wp2
  go_ret
  exact ⟨by first | rfl | simp, aBelow (Below.refl _ _) _⟩
theorem heavy_yes (x : Su) (h : ¬ x.small) (w : World) : Calls Tryz.prog 4 #[x.val] w fun e w' => e = .returned (.bool true) ∧ Below w.heap.size w w' := by
  unfold Su.small at h
  unfold Su.val
  by_cases h1 : 200 < x.l1.length
  · have k1 : (200 : Int) < (x.l1.length : Int) := by omega
    clear h
    go_enter Tryz.func4, Tryz.ntmps4
    go_wp2
    go_ret
    exact ⟨by first | rfl | simp, aBelow (Below.refl _ _) _⟩
  · have k1 : ¬ (200 : Int) < (x.l1.length : Int) := by omega
    by_cases h2 : 100 < x.l2.length
    · have k2 : (100 : Int) < (x.l2.length : Int) := by omega
      clear h
      go_enter Tryz.func4, Tryz.ntmps4
      go_wp2
      go_ret
      exact ⟨by first | rfl | simp, aBelow (Below.refl _ _) _⟩
    · have k2 : ¬ (100 : Int) < (x.l2.length : Int) := by omega
      have k3 : (600 : Int) < (x.l3.length : Int) := by omega
      clear h
      go_enter Tryz.func4, Tryz.ntmps4
      go_wp2
      go_ret
      exact ⟨by first | rfl | simp, aBelow (Below.refl _ _) _⟩
/-- Where byte k of a setup lies. -/
def plN (k a : Nat) : Nat := if k % 2 = 0 then 1048576 + a % 256 else 2097152 + a % 256
theorem place_any5 (k : Nat) (x : Ce) (hx : x.wf) (w : World) : Calls Tryz.prog 19 #[.int .i64 k, .agg #[.int .u8 (x.a : Nat), .int .u64 (x.v : Nat), .bool x.t]] w fun e w' => e = .returned (.int .u64 (plN k x.a : Nat)) ∧ Below w.heap.size w w' := by
  have hx1 := hx.1
  have ht : ((k : Nat) : Int).tmod 2 = ((k % 2 : Nat) : Int) := by rw [Int.tmod_eq_emod_of_nonneg (by omega)]; omega
  by_cases h : k % 2 = 0
  · rw [h] at ht
    unfold plN; rw [if_pos h]
    clear h
    go_enter Tryz.func19, Tryz.ntmps19
    go_wp2
    go_ret
    exact ⟨ret_u64 (by omega), aBelow (Below.refl _ _) _⟩
  · have h1 : k % 2 = 1 := by omega
    rw [h1] at ht
    unfold plN; rw [if_neg h]
    clear h h1
    go_enter Tryz.func19, Tryz.ntmps19
    go_wp2
    go_ret
    exact ⟨ret_u64 (by omega), aBelow (Below.refl _ _) _⟩
theorem plN_lt (k a : Nat) : plN k a < 18446744073709551616 := by unfold plN; split <;> omega
/-- The regions of a setup. -/
def rgs (n : Nat) : List Rg := [⟨4096, 4 * n + 4, 1⟩, ⟨1048576, 256, 2⟩, ⟨2097152, 256, 3⟩]
theorem rgs_len (n : Nat) : (rgs n).length = 3 := rfl
theorem rgs_wf (n : Nat) (hn : n ≤ 200) : wfL (rgs n) := fun i => by
  unfold rg rgs
  match i with
  | 0 => exact ⟨by show (4096 : Nat) < _; omega, by show 4 * n + 4 < _; omega, by show (1 : Nat) < _; omega⟩
  | 1 => exact ⟨by show (1048576 : Nat) < _; omega, by show (256 : Nat) < _; omega, by show (2 : Nat) < _; omega⟩
  | 2 => exact ⟨by show (2097152 : Nat) < _; omega, by show (256 : Nat) < _; omega, by show (3 : Nat) < _; omega⟩
  | k + 3 => exact ⟨by show (0 : Nat) < _; omega, by show (0 : Nat) < _; omega, by show (0 : Nat) < _; omega⟩
theorem rgs_may (n : Nat) (hn : n ≤ 200) : MayL (rgs n) := by
  refine ⟨fun i hi => ?_, by rw [rgs_len]; omega, by rw [rgs_len]; omega⟩
  have hi3 : i < 3 := hi
  have r0 : rg (rgs n) 0 = ⟨4096, 4 * n + 4, 1⟩ := rfl
  have r1 : rg (rgs n) 1 = ⟨1048576, 256, 2⟩ := rfl
  have r2 : rg (rgs n) 2 = ⟨2097152, 256, 3⟩ := rfl
  have hc : i = 0 ∨ i = 1 ∨ i = 2 := by omega
  rcases hc with rfl | rfl | rfl
  · refine ⟨⟨⟨by rw [r0]; simp, by rw [r0]; simp, by rw [r0]; simp, by rw [r0]; simp only; omega⟩, by rw [r0]; simp only; omega⟩, fun k hk => by omega⟩
  · refine ⟨⟨⟨by rw [r1]; simp, by rw [r1]; simp, by rw [r1]; simp, by rw [r1]; simp⟩, by rw [r1]; simp⟩, fun k hk => ?_⟩
    obtain rfl : k = 0 := by omega
    unfold meets
    rw [r0, r1]
    simp only
    omega
  · refine ⟨⟨⟨by rw [r2]; simp, by rw [r2]; simp, by rw [r2]; simp, by rw [r2]; simp⟩, by rw [r2]; simp⟩, fun k hk => ?_⟩
    have hk2 : k = 0 ∨ k = 1 := by omega
    unfold meets
    rcases hk2 with rfl | rfl
    · rw [r0, r2]; simp only; omega
    · rw [r1, r2]; simp only; omega
theorem regions_any (x : Su) (hx : x.l1.length ≤ 200) (w : World) : Calls Tryz.prog 16 #[x.val] w fun e w' => (∃ g, e = .returned (.slice (some ⟨g, 0, none⟩) 3 3) ∧ rowAt w' g 0 (rgs x.l1.length) ∧ w.heap.size ≤ g ∧ g < w'.heap.size) ∧ Below w.heap.size w w' := by
  have e1 : IntKind.i64.wrap (IntKind.i64.wrap (4 * ((x.l1.length : Nat) : Int)) + 4) = ((4 * x.l1.length + 4 : Nat) : Int) := by rw [IntKind.wrap_i64, IntKind.wrap_i64]; omega
  have e2 : IntKind.u64.wrap ((4 * x.l1.length + 4 : Nat) : Int) = ((4 * x.l1.length + 4 : Nat) : Int) := by rw [IntKind.wrap_u64]; omega
  unfold Su.val
  go_enter Tryz.func16, Tryz.ntmps16
  go_wp2
  go_ret
  have hs : (w.alloc (.cells #[.slice x.a1 x.l1.length x.c1, .slice x.a2 x.l2.length x.c2, .slice x.a3 x.l3.length x.c3] 25)).heap.size = w.heap.size + 1 := by rw [World.size_alloc]
  have key := fun o => nwc (w.alloc (.cells #[.slice x.a1 x.l1.length x.c1, .slice x.a2 x.l2.length x.c2, .slice x.a3 x.l3.length x.c3] 25)) #[.int .u64 4096, .int .u64 (4 * (x.l1.length : Int) + 4), .int .u8 1, .int .u64 1048576, .int .u64 256, .int .u8 2, .int .u64 2097152, .int .u64 256, .int .u8 3] 102 o
  rw [hs] at key
  have e3 : (4 * (x.l1.length : Int) + 4) = ((4 * x.l1.length + 4 : Nat) : Int) := by omega
  have hB := (aBelow (Below.refl w.heap.size w) (.cells #[.slice x.a1 x.l1.length x.c1, .slice x.a2 x.l2.length x.c2, .slice x.a3 x.l3.length x.c3] 25)).alloc (by rw [hs]; omega) (.cells #[.int .u64 4096, .int .u64 (4 * (x.l1.length : Int) + 4), .int .u8 1, .int .u64 1048576, .int .u64 256, .int .u8 2, .int .u64 2097152, .int .u64 256, .int .u8 3] 102)
  refine ⟨⟨w.heap.size + 1, rfl, fun i hi => ?_, by omega, by rw [World.size_alloc, hs]; omega⟩, hB⟩
  have hi3 : i < 3 := hi
  have hc : i = 0 ∨ i = 1 ∨ i = 2 := by omega
  rcases hc with rfl | rfl | rfl
  · exact ⟨key 0, by rw [key 1]; show some (Value.int .u64 (4 * (x.l1.length : Int) + 4)) = some (Value.int .u64 ((4 * x.l1.length + 4 : Nat) : Int)); rw [e3], key 2⟩
  · exact ⟨key 3, key 4, key 5⟩
  · exact ⟨key 6, key 7, key 8⟩
end Go.Proofs.YtfaacmcnefbgcaaGreatDoor.m4

/- Contract of code: the bytes of instructions, as the statements of layer 5 lay them. -/
namespace Go.Proofs.YtfaacmcnefbgcaaGreatDoor.m4
open Go.ChangeShapes Go.WideShapes Go.ChangeAt Go.RowKit
set_option linter.unusedVariables false
/-- The word that is laid for an instruction: its own, or its number, where it has none. -/
def cdW (x : In) : Nat := if x.ok = true then x.word else (x.imm % 4294967296).toNat
def b4 (v : Nat) : List Int := [(v : Int) % 256, (v : Int) / 256 % 256, (v : Int) / 65536 % 256, (v : Int) / 16777216]
def cdN (l : List In) : List Int := l.flatMap fun x => b4 (cdW x)
theorem cdN_length (l : List In) : (cdN l).length = 4 * l.length := by
  induction l with
  | nil => rfl
  | cons x r ih => unfold cdN at *; rw [List.flatMap_cons, List.length_append, ih, List.length_cons]; show 4 + _ = _; omega
theorem cdN_snoc (l : List In) (x : In) : cdN (l ++ [x]) = cdN l ++ b4 (cdW x) := by simp [cdN]
theorem cdW_lt (x : In) : cdW x < 4294967296 := by
  unfold cdW; split
  · exact wordN_lt _ _ _ _ _
  · omega
theorem nums_app (a b : List Int) : strOfNums a ++ strOfNums b = strOfNums (a ++ b) := by
  apply ByteArray.ext
  simp [strOfNums]
theorem take_in {l : List In} {k : Nat} (h : k < l.length) : l.take (k + 1) = l.take k ++ [ig l k] := by
  rw [List.take_succ_eq_append_getElem h]
  congr 2
  simp [ig, List.getD_eq_getElem?_getD, List.getElem?_eq_getElem h]
theorem conv4 (v : Nat) (W : World) : (convert 65 9 (.slice (some ⟨W.heap.size, 0, none⟩) 4 4)).run Tryz.prog (W.alloc (.cells #[.int .u8 ((v : Int) % 256), .int .u8 ((v : Int) / 256 % 256), .int .u8 ((v : Int) / 65536 % 256), .int .u8 ((v : Int) / 16777216)] 5)) = .ok (.string (strOfNums (b4 v))) (W.alloc (.cells #[.int .u8 ((v : Int) % 256), .int .u8 ((v : Int) / 256 % 256), .int .u8 ((v : Int) / 65536 % 256), .int .u8 ((v : Int) / 16777216)] 5)) := by
  refine run_convert_bytes_arg (P := Tryz.prog) _ 65 5 Tryz.underlying65 Tryz.underlying5 W.heap.size 0 4 4 (b4 v) rfl ?_ 9 Tryz.underlying9
  intro i hi
  have hc : i = 0 ∨ i = 1 ∨ i = 2 ∨ i = 3 := by omega
  rcases hc with rfl | rfl | rfl | rfl <;> (rw [nwc]; rfl)
set_option maxRecDepth 100000 in
set_option maxHeartbeats 2000000 in
theorem code_any (l : List In) (a : Option Addr) (c : Nat) (hl : l.length ≤ 200) (hwf : ∀ i, (ig l i).wf) (w : World) (h : InOf w a l) : Calls Tryz.prog 18 #[.slice a l.length c] w fun e w' => e = .returned (.string (strOfNums (cdN l))) ∧ Below w.heap.size w w' := by
  go_enter Tryz.func18, Tryz.ntmps18
  go_wp2
  go_loopw [3, 4] (fun s i wr => ∃ k : Nat, s = .string (strOfNums (cdN (l.take k))) ∧ i = .int .i64 k ∧ k ≤ l.length ∧ Below w.heap.size w wr) (fun _ i _ => l.length - (intOf i).toNat)
  case atStart => exact ⟨0, rfl, rfl, Nat.zero_le _, Below.refl _ _⟩
  case round =>
    obtain ⟨k, rfl, rfl, hk, hB⟩ := hrel
    by_cases hlt : k < l.length
    · obtain ⟨b, o, rfl, k0, k1, k2, k3, k4⟩ := h k hlt
      have hw := hwf k
      obtain ⟨x0, x1, x2, x3, x4, x5⟩ := hw
      have k0 := stay hB k0
      have k1 := stay hB k1
      have k2 := stay hB k2
      have k3 := stay hB k3
      have k4 := stay hB k4
      have i0 : (0 : Int) ≤ (k : Int) := by omega
      have i1 : (k : Int) < (l.length : Int) := by omega
      have hE := fun w' => renc_any (ig l k).op (ig l k).rd (ig l k).rs1 (ig l k).rs2 (ig l k).imm x0 x1 x2 x3 x4 x5 w'
      have hv := cdW_lt (ig l k)
      have hcv := conv4 (cdW (ig l k))
      have hs1 : (strOfNums (cdN (l.take k))).size ≤ 800 := by rw [strOfNums_size, cdN_length, List.length_take]; omega
      have hs2 : (strOfNums (b4 (cdW (ig l k)))).size = 4 := by rw [strOfNums_size]; rfl
      have hap : strOfNums (cdN (l.take (k + 1))) = strOfNums (cdN (l.take k)) ++ strOfNums (b4 (cdW (ig l k))) := by rw [take_in hlt, cdN_snoc, nums_app]
      cases ho : (ig l k).ok with
      | true =>
        have e1 : encW (ig l k).op (ig l k).rd (ig l k).rs1 (ig l k).rs2 (ig l k).imm = cdW (ig l k) := by unfold encW cdW; rw [if_pos ho]; unfold In.ok at ho; rw [if_pos ho]; rfl
        have e2 : encE (ig l k).op (ig l k).rd (ig l k).rs1 (ig l k).rs2 (ig l k).imm = 0 := by unfold encE; unfold In.ok at ho; rw [if_pos ho]
        rw [e1, e2] at hE
        clear e1 e2
        generalize cdW (ig l k) = v at *
        generalize strOfNums (cdN (l.take k)) = sq at *
        generalize strOfNums (b4 v) = sd at *
        have hn1 : ¬ 9223372036854775807 < sq.size + 4 := by omega
        have hn2 : ¬ 9223372036854775807 < sq.size + sd.size := by omega
        go_wp2_with (go_at_call 46; (with_reducible refine (hE _).mono ?_); (rintro e w2 ⟨rfl, hb2⟩); have hB2 := below_trans' hB (Nat.le_refl _) hb2)
        go_roundw
        case rel => exact ⟨k + 1, by rw [hap], by go_num, by omega, hB2.alloc hB2.size _⟩
        case measure => first | (simp [intOf]; done) | (simp [intOf]; omega)
      | false =>
        have e2 : encE (ig l k).op (ig l k).rd (ig l k).rs1 (ig l k).rs2 (ig l k).imm = 2 := by unfold encE; unfold In.ok at ho; rw [if_neg (by rw [ho]; decide)]
        rw [e2] at hE
        have e3 : IntKind.u32.wrap (ig l k).imm = ((cdW (ig l k) : Nat) : Int) := by rw [IntKind.wrap_u32]; unfold cdW; rw [if_neg (by rw [ho]; decide)]; omega
        clear e2
        generalize encW (ig l k).op (ig l k).rd (ig l k).rs1 (ig l k).rs2 (ig l k).imm = z at *
        generalize cdW (ig l k) = v at *
        generalize strOfNums (cdN (l.take k)) = sq at *
        generalize strOfNums (b4 v) = sd at *
        have hn1 : ¬ 9223372036854775807 < sq.size + 4 := by omega
        have hn2 : ¬ 9223372036854775807 < sq.size + sd.size := by omega
        go_wp2_with (go_at_call 46; (with_reducible refine (hE _).mono ?_); (rintro e w2 ⟨rfl, hb2⟩); have hB2 := below_trans' hB (Nat.le_refl _) hb2; have k4 := stay hb2 k4)
        go_roundw
        case rel => exact ⟨k + 1, by rw [hap], by go_num, by omega, hB2.alloc hB2.size _⟩
        case measure => first | (simp [intOf]; done) | (simp [intOf]; omega)
    · obtain rfl : k = l.length := by omega
      go_wp2
      go_ret
      exact ⟨by first | rfl | (rw [List.take_length]; rfl), hB⟩
end Go.Proofs.YtfaacmcnefbgcaaGreatDoor.m4
