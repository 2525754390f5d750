/- Contract of the document's own answer Decode of layer 3: for any word. -/
import Derived.Test.YtjkagpmepokihaaDoorGsB
import Derived.Test.YtjkagpmepokihaaDoorR2D
namespace Go.Proofs.YtjkagpmepokihaaDoor
open Go.ChangeShapes Go.WideShapes Go.ChangeAt Go.RowKit
set_option linter.unusedVariables false
theorem rency (x : In) (h : x.wf) (ho : x.ok = true) (w : World) :
    Calls Tryd.prog 20 #[.agg #[.int .u8 x.op, .int .u8 x.rd, .int .u8 x.rs1, .int .u8 x.rs2, .int .i64 x.imm]] w fun e w' => e = .returned (.tuple #[.int .u32 (x.word : Nat), .int .i64 0]) ∧ Below w.heap.size w w' := by
  obtain ⟨h1, h2, h3, h4, h5, h6⟩ := h
  have hc := renc_any x.op x.rd x.rs1 x.rs2 x.imm h1 h2 h3 h4 h5 h6 w
  have eW : encW x.op x.rd x.rs1 x.rs2 x.imm = x.word := by unfold In.ok at ho; rw [encW, if_pos ho]; rfl
  have eE : encE x.op x.rd x.rs1 x.rs2 x.imm = 0 := by unfold In.ok at ho; rw [encE, if_pos ho]
  rw [eW, eE] at hc
  exact hc
theorem rencn (x : In) (h : x.wf) (ho : x.ok = false) (w : World) :
    Calls Tryd.prog 20 #[.agg #[.int .u8 x.op, .int .u8 x.rd, .int .u8 x.rs1, .int .u8 x.rs2, .int .i64 x.imm]] w fun e w' => e = .returned (.tuple #[.int .u32 0, .int .i64 2]) ∧ Below w.heap.size w w' := by
  obtain ⟨h1, h2, h3, h4, h5, h6⟩ := h
  have hc := renc_any x.op x.rd x.rs1 x.rs2 x.imm h1 h2 h3 h4 h5 h6 w
  have eW : encW x.op x.rd x.rs1 x.rs2 x.imm = 0 := by unfold In.ok at ho; rw [encW, if_neg (by simp [ho])]
  have eE : encE x.op x.rd x.rs1 x.rs2 x.imm = 2 := by unfold In.ok at ho; rw [encE, if_neg (by simp [ho])]
  rw [eW, eE] at hc
  exact hc

theorem res_ct {fn : Func} {p q : Tmp} (h : fn.results = #[.cell p 24, .tmp q]) (tmps : Array Value) (w : World) (g : Nat) (c0 c1 c2 c3 c4 d : Value) (hp : tmps.getD p undef = .pointer (some ⟨g, 0, none⟩)) (hq : tmps.getD q undef = d)
    (hr : rowG #[c0, c1, c2, c3, c4] w g) :
    (results fn tmps).run Tryd.prog w = .ok (.tuple #[.agg #[c0, c1, c2, c3, c4], d]) w := by
  have hp' : tmps[p]?.getD undef = .pointer (some ⟨g, 0, none⟩) := by simpa using hp
  have hq' : tmps[q]?.getD undef = d := by simpa using hq
  have h0 : w.cell? ⟨g, 0, none⟩ = some c0 := hr.1 0 (by simp)
  have h1 : w.cell? ⟨g, 1, none⟩ = some c1 := hr.1 1 (by simp)
  have h2 : w.cell? ⟨g, 2, none⟩ = some c2 := hr.1 2 (by simp)
  have h3 : w.cell? ⟨g, 3, none⟩ = some c3 := hr.1 3 (by simp)
  have h4 : w.cell? ⟨g, 4, none⟩ = some c4 := hr.1 4 (by simp)
  simp [results, h, hp', hq', go_sem, h0, h1, h2, h3, h4]
theorem form_le' (k : Nat) (h : k < 35) : formT k ≤ 8 := (by decide +kernel : ∀ k < 35, formT k ≤ 8) k h
theorem form_pos (k : Nat) (h1 : 1 ≤ k) (h2 : k ≤ 34) : 1 ≤ formT k := (by decide +kernel : ∀ k < 35, 1 ≤ k → 1 ≤ formT k) k (by omega) h1
set_option maxRecDepth 100000 in
set_option maxHeartbeats 4000000 in
theorem rdec_any (v : Nat) (hv : v < 4294967296) (w0 : World) :
    Calls Tryd.prog 8 #[.int .u32 v] w0 fun e w' => e = .returned (.tuple #[.agg (inC (decA v)), .int .i64 (decE v)]) ∧ Below w0.heap.size w0 w' := by
  go_enter Tryd.func8, Tryd.ntmps8
  go_wp2
  have hz : rowG #[.int .u8 0, .int .u8 0, .int .u8 0, .int .u8 0, .int .i64 0] (w0.alloc (.cells #[.int .u8 0, .int .u8 0, .int .u8 0, .int .u8 0, .int .i64 0] 24)) w0.heap.size := rowG_new _ _ _
  go_loopw [4] (fun o wr => ∃ k : Nat, 1 ≤ k ∧ k ≤ 35 ∧ o = .int .u8 k ∧ (∀ j, 1 ≤ j → j < k → ¬ isW v (fldF (formT j) v j)) ∧ Below w0.heap.size w0 wr ∧ rowG #[.int .u8 0, .int .u8 0, .int .u8 0, .int .u8 0, .int .i64 0] wr w0.heap.size) (fun o _ => 40 - (intOf o).toNat)
  case atStart => exact ⟨1, by omega, by omega, rfl, fun j h1 h2 => by omega, (Below.refl _ _).alloc (Nat.le_refl _) _, hz⟩
  case round =>
    obtain ⟨k, hk1, hk2, rfl, hno, hB, hr⟩ := hrel
    by_cases hlt : k ≤ 34
    · have hkf : formT k ≤ 8 := form_le' k (by omega)
      have hk0 : 1 ≤ formT k := form_pos k hk1 hlt
      have hO := rof_any k hk1 hlt
      have hG := gs_any (formT k) k v hk0 hkf (by omega) hv
      obtain ⟨x, hx⟩ : ∃ x, fldF (formT k) v k = x := ⟨_, rfl⟩
      have hxw : x.wf := by rw [← hx]; exact fldF_wf _ _ _ hv (by omega)
      rw [hx] at hG
      unfold inC at hG
      have hlk : (k : Int) ≤ 34 := by omega
      by_cases ho : x.ok = true
      · have hE := rency x hxw ho
        by_cases hw : x.word = v
        · have hW : isW v x := ⟨ho, hw⟩
          obtain ⟨eA, eE⟩ := dec_yes hW
          rw [hw] at hE
          clear hno hx
          go_wp2_with (first | (go_at_call 18; (with_reducible refine (hO _).mono ?_); (rintro e w1 ⟨rfl, b1⟩); have B1 := below_trans' hB (Nat.le_refl _) (b1.alloc b1.size (.cells #[.int .u32 (codeT k : Nat), .int .u32 (f3T k : Nat), .int .u32 (f7T k : Nat), .int .i64 (formT k : Nat)] 46))) | (go_at_call 19; (with_reducible refine (hG _).mono ?_); (rintro e w2 ⟨rfl, b2⟩); have B2 := below_trans' B1 (Nat.le_refl _) (b2.alloc b2.size (.cells #[.int .u8 x.op, .int .u8 x.rd, .int .u8 x.rs1, .int .u8 x.rs2, .int .i64 x.imm] 24))) | (go_at_call 20; (with_reducible refine (hE _).mono ?_); (rintro e w3 ⟨rfl, b3⟩); have B3 := below_trans' B2 (Nat.le_refl _) b3; have hr1 := rowG_alloc (rowG_below hr b1 hr.2.2) (.cells #[.int .u32 (codeT k : Nat), .int .u32 (f3T k : Nat), .int .u32 (f7T k : Nat), .int .i64 (formT k : Nat)] 46); have hr2 := rowG_alloc (rowG_below hr1 b2 hr1.2.2) (.cells #[.int .u8 x.op, .int .u8 x.rd, .int .u8 x.rs1, .int .u8 x.rs2, .int .i64 x.imm] 24); have hr3 := rowG_below hr2 b3 hr2.2.2; have nx := rowG_below (rowG_new #[.int .u8 x.op, .int .u8 x.rd, .int .u8 x.rs1, .int .u8 x.rs2, .int .i64 x.imm] 24 w2) b3 (by simp); have n_0 : w3.cell? ⟨w2.heap.size, 0, none⟩ = some (.int .u8 x.op) := nx.1 0 (by simp); have n_1 : w3.cell? ⟨w2.heap.size, 1, none⟩ = some (.int .u8 x.rd) := nx.1 1 (by simp); have n_2 : w3.cell? ⟨w2.heap.size, 2, none⟩ = some (.int .u8 x.rs1) := nx.1 2 (by simp); have n_3 : w3.cell? ⟨w2.heap.size, 3, none⟩ = some (.int .u8 x.rs2) := nx.1 3 (by simp); have n_4 : w3.cell? ⟨w2.heap.size, 4, none⟩ = some (.int .i64 x.imm) := nx.1 4 (by simp); have y_0 : w3.cell? ⟨w0.heap.size, 0, none⟩ = some (.int .u8 0) := hr3.1 0 (by simp); have z_0 := hr3.2.1 0; have y_1 : w3.cell? ⟨w0.heap.size, 1, none⟩ = some (.int .u8 0) := hr3.1 1 (by simp); have z_1 := hr3.2.1 1; have y_2 : w3.cell? ⟨w0.heap.size, 2, none⟩ = some (.int .u8 0) := hr3.1 2 (by simp); have z_2 := hr3.2.1 2; have y_3 : w3.cell? ⟨w0.heap.size, 3, none⟩ = some (.int .u8 0) := hr3.1 3 (by simp); have z_3 := hr3.2.1 3; have y_4 : w3.cell? ⟨w0.heap.size, 4, none⟩ = some (.int .i64 0) := hr3.1 4 (by simp); have z_4 := hr3.2.1 4))
          have B4 := B3
          refine bodyPost_ret (res_ct rfl _ _ w0.heap.size _ _ _ _ _ _ rfl rfl (row_five _ _ _ _ _ hr3)) rfl ⟨by rw [eA, eE]; rfl, ?_⟩
          repeat (first | (with_reducible exact B3) | (with_reducible refine sBelow ?_ (Nat.le_refl _)))
        · have hn : ¬ isW v (fldF (formT k) v k) := fun h => hw (by rw [hx] at h; exact h.2)
          have hne : (((x.word : Nat) : Int) == (v : Int)) = false := by simp only [beq_eq_false_iff_ne]; omega
          have hwl : x.word < 4294967296 := wordN_lt _ _ _ _ _
          generalize x.word = wd at *
          go_wp2_with (first | (go_at_call 18; (with_reducible refine (hO _).mono ?_); (rintro e w1 ⟨rfl, b1⟩); have B1 := below_trans' hB (Nat.le_refl _) (b1.alloc b1.size (.cells #[.int .u32 (codeT k : Nat), .int .u32 (f3T k : Nat), .int .u32 (f7T k : Nat), .int .i64 (formT k : Nat)] 46))) | (go_at_call 19; (with_reducible refine (hG _).mono ?_); (rintro e w2 ⟨rfl, b2⟩); have B2 := below_trans' B1 (Nat.le_refl _) (b2.alloc b2.size (.cells #[.int .u8 x.op, .int .u8 x.rd, .int .u8 x.rs1, .int .u8 x.rs2, .int .i64 x.imm] 24))) | (go_at_call 20; (with_reducible refine (hE _).mono ?_); (rintro e w3 ⟨rfl, b3⟩); have B3 := below_trans' B2 (Nat.le_refl _) b3))
          go_roundw
          case rel => exact ⟨k + 1, by omega, by omega, by go_num, fun j h1 h2 => by rcases Nat.lt_or_ge j k with h | h; exact hno j h1 h; (obtain rfl : j = k := by omega); exact hn, B3, rowG_below (rowG_alloc (rowG_below (rowG_alloc (rowG_below hr b1 hr.2.2) (.cells #[.int .u32 (codeT k : Nat), .int .u32 (f3T k : Nat), .int .u32 (f7T k : Nat), .int .i64 (formT k : Nat)] 46)) b2 (by have := b1.size; have := hr.2.2; simp; omega)) (.cells #[.int .u8 x.op, .int .u8 x.rd, .int .u8 x.rs1, .int .u8 x.rs2, .int .i64 x.imm] 24)) b3 (by have h1 := b1.size; have h2 := b2.size; have := hr.2.2; simp at h2 ⊢; omega)⟩
          case measure => first | (simp [intOf]; done) | (simp [intOf]; omega)
      · have hn : ¬ isW v (fldF (formT k) v k) := fun h => ho (by rw [hx] at h; exact h.1)
        have hE := rencn x hxw (by simpa using ho)
        go_wp2_with (first | (go_at_call 18; (with_reducible refine (hO _).mono ?_); (rintro e w1 ⟨rfl, b1⟩); have B1 := below_trans' hB (Nat.le_refl _) (b1.alloc b1.size (.cells #[.int .u32 (codeT k : Nat), .int .u32 (f3T k : Nat), .int .u32 (f7T k : Nat), .int .i64 (formT k : Nat)] 46))) | (go_at_call 19; (with_reducible refine (hG _).mono ?_); (rintro e w2 ⟨rfl, b2⟩); have B2 := below_trans' B1 (Nat.le_refl _) (b2.alloc b2.size (.cells #[.int .u8 x.op, .int .u8 x.rd, .int .u8 x.rs1, .int .u8 x.rs2, .int .i64 x.imm] 24))) | (go_at_call 20; (with_reducible refine (hE _).mono ?_); (rintro e w3 ⟨rfl, b3⟩); have B3 := below_trans' B2 (Nat.le_refl _) b3))
        go_roundw
        case rel => exact ⟨k + 1, by omega, by omega, by go_num, fun j h1 h2 => by rcases Nat.lt_or_ge j k with h | h; exact hno j h1 h; (obtain rfl : j = k := by omega); exact hn, B3, rowG_below (rowG_alloc (rowG_below (rowG_alloc (rowG_below hr b1 hr.2.2) (.cells #[.int .u32 (codeT k : Nat), .int .u32 (f3T k : Nat), .int .u32 (f7T k : Nat), .int .i64 (formT k : Nat)] 46)) b2 (by have := b1.size; have := hr.2.2; simp; omega)) (.cells #[.int .u8 x.op, .int .u8 x.rd, .int .u8 x.rs1, .int .u8 x.rs2, .int .i64 x.imm] 24)) b3 (by have h1 := b1.size; have h2 := b2.size; have := hr.2.2; simp at h2 ⊢; omega)⟩
        case measure => first | (simp [intOf]; done) | (simp [intOf]; omega)
    · obtain rfl : k = 35 := by omega
      obtain ⟨eA, eE⟩ := dec_no (decN_none' (fun j a b => hno j a (by omega)))
      have y_0 : wr.cell? ⟨w0.heap.size, 0, none⟩ = some (.int .u8 0) := hr.1 0 (by simp)
      have z_0 := hr.2.1 0
      have y_1 : wr.cell? ⟨w0.heap.size, 1, none⟩ = some (.int .u8 0) := hr.1 1 (by simp)
      have z_1 := hr.2.1 1
      have y_2 : wr.cell? ⟨w0.heap.size, 2, none⟩ = some (.int .u8 0) := hr.1 2 (by simp)
      have z_2 := hr.2.1 2
      have y_3 : wr.cell? ⟨w0.heap.size, 3, none⟩ = some (.int .u8 0) := hr.1 3 (by simp)
      have z_3 := hr.2.1 3
      have y_4 : wr.cell? ⟨w0.heap.size, 4, none⟩ = some (.int .i64 0) := hr.1 4 (by simp)
      have z_4 := hr.2.1 4
      go_wp2
      refine bodyPost_ret (res_ct rfl _ _ w0.heap.size _ _ _ _ _ _ rfl rfl (row_five _ _ _ _ _ hr)) rfl ⟨by rw [eA, eE]; rfl, ?_⟩
      repeat (first | (with_reducible exact hB) | (with_reducible refine sBelow ?_ (Nat.le_refl _)))
end Go.Proofs.YtjkagpmepokihaaDoor
