/- Unlike instructions have unlike words (plain numbers). -/
import Derived.Test.YtjkagpmepokihaaDoorInS
namespace Go.Proofs.YtjkagpmepokihaaDoor
set_option linter.unusedVariables false
def agB (k j : Nat) : Bool := k != 0 && j != 0 && codeT k == codeT j && (formT k == 4 || formT k == 7 || formT j == 4 || formT j == 7 || f3T k == f3T j) && (formT k != 1 || formT j != 1 || f7T k == f7T j) && (formT k != 3 || formT j != 3 || f7T k / 2 == f7T j / 2)
theorem agT : ∀ k < 35, ∀ j < 35, agB k j = true → k = j := by decide +kernel
theorem agreeT (k : Nat) (hk : k < 35) (j : Nat) (hj : j < 35) (h : k ≠ 0 ∧ j ≠ 0 ∧ codeT k = codeT j ∧ (formT k = 4 ∨ formT k = 7 ∨ formT j = 4 ∨ formT j = 7 ∨ f3T k = f3T j) ∧ (formT k ≠ 1 ∨ formT j ≠ 1 ∨ f7T k = f7T j) ∧ (formT k ≠ 3 ∨ formT j ≠ 3 ∨ f7T k / 2 = f7T j / 2)) : k = j := by
  refine agT k hk j hj ?_
  simp only [agB, Bool.and_eq_true, Bool.or_eq_true, bne_iff_ne, beq_iff_eq]
  omega
theorem layv_inj : ∀ (l m : List (Nat × Nat)), l.map (·.2) = m.map (·.2) → layv l = layv m → l.map (fun p => p.1 % 2 ^ p.2) = m.map (fun p => p.1 % 2 ^ p.2)
  | [], [], _, _ => rfl
  | [], _ :: _, h, _ => by simp at h
  | _ :: _, [], h, _ => by simp at h
  | p :: l, q :: m, h, e => by
    simp only [List.map_cons, List.cons.injEq] at h ⊢
    obtain ⟨hw, ht⟩ := h
    simp only [layv] at e
    rw [← hw] at e ⊢
    have hp : 0 < 2 ^ p.2 := Nat.pow_pos (by omega)
    have h1 : (p.1 % 2 ^ p.2 + 2 ^ p.2 * layv l) % 2 ^ p.2 = (q.1 % 2 ^ p.2 + 2 ^ p.2 * layv m) % 2 ^ p.2 := by rw [e]
    rw [Nat.add_mul_mod_self_left, Nat.add_mul_mod_self_left, Nat.mod_mod, Nat.mod_mod] at h1
    rw [h1] at e
    exact ⟨h1, layv_inj l m ht (Nat.eq_of_mul_eq_mul_left hp (by omega))⟩
theorem inj6 (v v' : Int) (h1 : v / 2 % 16 = v' / 2 % 16) (h2 : v / 32 % 64 = v' / 32 % 64) (h3 : v / 2048 % 2 = v' / 2048 % 2) (h4 : v / 4096 % 2 = v' / 4096 % 2) (r : (-4096 ≤ v ∧ v < 4096) ∧ v % 2 = 0) (s : (-4096 ≤ v' ∧ v' < 4096) ∧ v' % 2 = 0) : v = v' := by omega
theorem inj7 (v v' : Int) (h1 : v / 2 % 1024 = v' / 2 % 1024) (h2 : v / 4096 % 256 = v' / 4096 % 256) (h3 : v / 2048 % 2 = v' / 2048 % 2) (h4 : v / 1048576 % 2 = v' / 1048576 % 2) (r : (-1048576 ≤ v ∧ v < 1048576) ∧ v % 2 = 0) (s : (-1048576 ≤ v' ∧ v' < 1048576) ∧ v' % 2 = 0) : v = v' := by omega
theorem sub16 {a b : Nat} {x y : Int} (p : (a : Int) = x % 4294967296) (q : (b : Int) = y % 4294967296) (h : a % 16 = b % 16) : x % 16 = y % 16 := by omega
theorem sub64 {a b : Nat} {x y : Int} (p : (a : Int) = x % 4294967296) (q : (b : Int) = y % 4294967296) (h : a % 64 = b % 64) : x % 64 = y % 64 := by omega
theorem sub2 {a b : Nat} {x y : Int} (p : (a : Int) = x % 4294967296) (q : (b : Int) = y % 4294967296) (h : a % 2 = b % 2) : x % 2 = y % 2 := by omega
theorem sub256 {a b : Nat} {x y : Int} (p : (a : Int) = x % 4294967296) (q : (b : Int) = y % 4294967296) (h : a % 256 = b % 256) : x % 256 = y % 256 := by omega
theorem sub1024 {a b : Nat} {x y : Int} (p : (a : Int) = x % 4294967296) (q : (b : Int) = y % 4294967296) (h : a % 1024 = b % 1024) : x % 1024 = y % 1024 := by omega
theorem tabs (k : Nat) (h : k < 35) (h0 : formT k ≠ 0) : k ≠ 0 ∧ codeT k < 128 ∧ f3T k < 8 ∧ f7T k < 128 ∧ formT k ≤ 8 ∧ codeT k % 4 = 3 := by
  have := (by decide +kernel : ∀ k < 35, formT k ≠ 0 → k ≠ 0 ∧ codeT k < 128 ∧ f3T k < 8 ∧ f7T k < 128 ∧ formT k ≤ 8 ∧ codeT k % 4 = 3) k h h0
  exact this
/-- What the word of an instruction says of its row. -/
theorem row_of_word {op rd rs1 rs2 : Nat} {v : Int} (h : okB op rd rs1 rs2 v = true) :
    wcode (wordN op rd rs1 rs2 v) = codeT op ∧ (formT op = 4 ∨ formT op = 7 ∨ wf3 (wordN op rd rs1 rs2 v) = f3T op) ∧ (formT op ≠ 1 ∨ wf7 (wordN op rd rs1 rs2 v) = f7T op) ∧ (formT op ≠ 3 ∨ wf7 (wordN op rd rs1 rs2 v) / 2 = f7T op / 2) := by
  obtain ⟨h1, h2, h3, h4, h5, h6⟩ := ok_parts h
  obtain ⟨t1, t2, t3, t4, t5, t6⟩ := tabs op h1 h2
  unfold wordN wcode wf3 wf7
  generalize codeT op = c at *
  generalize f3T op = f3 at *
  generalize f7T op = f7 at *
  generalize formT op = fm at *
  rcases form_cases t5 h2 with rfl | rfl | rfl | rfl | rfl | rfl | rfl | rfl
  · rw [lay1]; simp; omega
  · rw [lay2]; simp; omega
  · rw [lay3]; simp; omega
  · rw [lay4]; simp; omega
  · rw [lay5]; simp; omega
  · rw [lay6]; simp; omega
  · rw [lay7]; simp; omega
  · rw [lay8]; simp; omega
theorem word_low {op rd rs1 rs2 : Nat} {v : Int} (h : okB op rd rs1 rs2 v = true) : wordN op rd rs1 rs2 v % 4 = 3 := by
  obtain ⟨h1, _⟩ := row_of_word h
  obtain ⟨k1, k2, _⟩ := ok_parts h
  have := (tabs op k1 k2).2.2.2.2.2
  unfold wcode at h1
  omega
theorem word_op {op rd rs1 rs2 op' rd' rs1' rs2' : Nat} {v v' : Int} (h : okB op rd rs1 rs2 v = true) (h' : okB op' rd' rs1' rs2' v' = true) (hw : wordN op rd rs1 rs2 v = wordN op' rd' rs1' rs2' v') : op = op' := by
  obtain ⟨a1, a2, a3, a4⟩ := row_of_word h
  obtain ⟨b1, b2, b3, b4⟩ := row_of_word h'
  obtain ⟨k1, k2, _⟩ := ok_parts h
  obtain ⟨l1, l2, _⟩ := ok_parts h'
  rw [hw] at a1 a2 a3 a4
  exact agreeT op k1 op' l1 ⟨(tabs op k1 k2).1, (tabs op' l1 l2).1, by omega, by omega, by omega, by omega⟩
theorem word_inj {op rd rs1 rs2 op' rd' rs1' rs2' : Nat} {v v' : Int} (h : okB op rd rs1 rs2 v = true) (h' : okB op' rd' rs1' rs2' v' = true) (hw : wordN op rd rs1 rs2 v = wordN op' rd' rs1' rs2' v') :
    op = op' ∧ rd = rd' ∧ rs1 = rs1' ∧ rs2 = rs2' ∧ v = v' := by
  obtain rfl := word_op h h' hw
  refine ⟨rfl, ?_⟩
  obtain ⟨h1, h2, h3, h4, h5, h6⟩ := ok_parts h
  obtain ⟨_, _, g3, g4, g5, g6⟩ := ok_parts h'
  obtain ⟨t1, t2, t3, t4, t5, t6⟩ := tabs op h1 h2
  unfold wordN at hw
  generalize codeT op = c at *
  generalize f3T op = f3 at *
  generalize f7T op = f7 at *
  generalize formT op = fm at *
  have p0 := cut0 v; have p1 := cut1 v; have p5 := cut5 v; have p11 := cut11 v; have p12 := cut12 v; have p20 := cut20 v
  have q0 := cut0 v'; have q1 := cut1 v'; have q5 := cut5 v'; have q11 := cut11 v'; have q12 := cut12 v'; have q20 := cut20 v'
  rcases form_cases t5 h2 with rfl | rfl | rfl | rfl | rfl | rfl | rfl | rfl
  · have hh := layv_inj _ _ (by rfl) hw
    rw [show piecesv 1 c f3 f7 rd rs1 rs2 v = [(c, 7), (rd, 5), (f3, 3), (rs1, 5), (rs2, 5), (f7, 7)] from rfl, show piecesv 1 c f3 f7 rd' rs1' rs2' v' = [(c, 7), (rd', 5), (f3, 3), (rs1', 5), (rs2', 5), (f7, 7)] from rfl] at hh
    simp only [List.map_cons, List.map_nil, List.cons.injEq, Nat.reducePow, and_true, true_and] at hh
    have r3 := (reg_t rd).1 h3; have r4 := (reg_t rs1).1 h4; have r5 := (reg_t rs2).1 h5; have r6 := (imm1 v).1 h6
    have s3 := (reg_t rd').1 g3; have s4 := (reg_t rs1').1 g4; have s5 := (reg_t rs2').1 g5; have s6 := (imm1 v').1 g6
    clear hw h3 h4 h5 h6 g3 g4 g5 g6
    clear p1 p11 p20 q1 q11 q20
    refine ⟨by omega, by omega, by omega, by omega⟩
  · have hh := layv_inj _ _ (by rfl) hw
    rw [show piecesv 2 c f3 f7 rd rs1 rs2 v = [(c, 7), (rd, 5), (f3, 3), (rs1, 5), (cutN v 0, 12)] from rfl, show piecesv 2 c f3 f7 rd' rs1' rs2' v' = [(c, 7), (rd', 5), (f3, 3), (rs1', 5), (cutN v' 0, 12)] from rfl] at hh
    simp only [List.map_cons, List.map_nil, List.cons.injEq, Nat.reducePow, and_true, true_and] at hh
    have r3 := (reg_t rd).1 h3; have r4 := (reg_t rs1).1 h4; have r5 := (reg_f rs2).1 h5; have r6 := (imm2 v).1 h6
    have s3 := (reg_t rd').1 g3; have s4 := (reg_t rs1').1 g4; have s5 := (reg_f rs2').1 g5; have s6 := (imm2 v').1 g6
    clear hw h3 h4 h5 h6 g3 g4 g5 g6
    clear p1 p11 p20 q1 q11 q20
    refine ⟨by omega, by omega, by omega, by omega⟩
  · have hh := layv_inj _ _ (by rfl) hw
    rw [show piecesv 3 c f3 f7 rd rs1 rs2 v = [(c, 7), (rd, 5), (f3, 3), (rs1, 5), (cutN v 0, 6), (f7 / 2, 6)] from rfl, show piecesv 3 c f3 f7 rd' rs1' rs2' v' = [(c, 7), (rd', 5), (f3, 3), (rs1', 5), (cutN v' 0, 6), (f7 / 2, 6)] from rfl] at hh
    simp only [List.map_cons, List.map_nil, List.cons.injEq, Nat.reducePow, and_true, true_and] at hh
    have r3 := (reg_t rd).1 h3; have r4 := (reg_t rs1).1 h4; have r5 := (reg_f rs2).1 h5; have r6 := (imm3 v).1 h6
    have s3 := (reg_t rd').1 g3; have s4 := (reg_t rs1').1 g4; have s5 := (reg_f rs2').1 g5; have s6 := (imm3 v').1 g6
    clear hw h3 h4 h5 h6 g3 g4 g5 g6
    clear p1 p11 p20 q1 q11 q20
    refine ⟨by omega, by omega, by omega, by omega⟩
  · have hh := layv_inj _ _ (by rfl) hw
    rw [show piecesv 4 c f3 f7 rd rs1 rs2 v = [(c, 7), (rd, 5), (cutN v 12, 20)] from rfl, show piecesv 4 c f3 f7 rd' rs1' rs2' v' = [(c, 7), (rd', 5), (cutN v' 12, 20)] from rfl] at hh
    simp only [List.map_cons, List.map_nil, List.cons.injEq, Nat.reducePow, and_true, true_and] at hh
    have r3 := (reg_t rd).1 h3; have r4 := (reg_f rs1).1 h4; have r5 := (reg_f rs2).1 h5; have r6 := (imm4 v).1 h6
    have s3 := (reg_t rd').1 g3; have s4 := (reg_f rs1').1 g4; have s5 := (reg_f rs2').1 g5; have s6 := (imm4 v').1 g6
    clear hw h3 h4 h5 h6 g3 g4 g5 g6
    clear p1 p11 p20 q1 q11 q20
    refine ⟨by omega, by omega, by omega, by omega⟩
  · have hh := layv_inj _ _ (by rfl) hw
    rw [show piecesv 5 c f3 f7 rd rs1 rs2 v = [(c, 7), (cutN v 0, 5), (f3, 3), (rs1, 5), (rs2, 5), (cutN v 5, 7)] from rfl, show piecesv 5 c f3 f7 rd' rs1' rs2' v' = [(c, 7), (cutN v' 0, 5), (f3, 3), (rs1', 5), (rs2', 5), (cutN v' 5, 7)] from rfl] at hh
    simp only [List.map_cons, List.map_nil, List.cons.injEq, Nat.reducePow, and_true, true_and] at hh
    have r3 := (reg_f rd).1 h3; have r4 := (reg_t rs1).1 h4; have r5 := (reg_t rs2).1 h5; have r6 := (imm5 v).1 h6
    have s3 := (reg_f rd').1 g3; have s4 := (reg_t rs1').1 g4; have s5 := (reg_t rs2').1 g5; have s6 := (imm5 v').1 g6
    clear hw h3 h4 h5 h6 g3 g4 g5 g6
    clear p1 p11 p20 q1 q11 q20
    refine ⟨by omega, by omega, by omega, by omega⟩
  · have hh := layv_inj _ _ (by rfl) hw
    rw [show piecesv 6 c f3 f7 rd rs1 rs2 v = [(c, 7), (cutN v 11, 1), (cutN v 1, 4), (f3, 3), (rs1, 5), (rs2, 5), (cutN v 5, 6), (cutN v 12, 1)] from rfl, show piecesv 6 c f3 f7 rd' rs1' rs2' v' = [(c, 7), (cutN v' 11, 1), (cutN v' 1, 4), (f3, 3), (rs1', 5), (rs2', 5), (cutN v' 5, 6), (cutN v' 12, 1)] from rfl] at hh
    simp only [List.map_cons, List.map_nil, List.cons.injEq, Nat.reducePow, and_true, true_and] at hh
    have r3 := (reg_f rd).1 h3; have r4 := (reg_t rs1).1 h4; have r5 := (reg_t rs2).1 h5; have r6 := (imm6 v).1 h6
    have s3 := (reg_f rd').1 g3; have s4 := (reg_t rs1').1 g4; have s5 := (reg_t rs2').1 g5; have s6 := (imm6 v').1 g6
    clear hw h3 h4 h5 h6 g3 g4 g5 g6
    obtain ⟨w1, w2, w5, w6, w7, w8⟩ := hh
    exact ⟨by omega, by omega, by omega, inj6 v v' (sub16 p1 q1 w2) (sub64 p5 q5 w7) (sub2 p11 q11 w1) (sub2 p12 q12 w8) r6 s6⟩
  · have hh := layv_inj _ _ (by rfl) hw
    rw [show piecesv 7 c f3 f7 rd rs1 rs2 v = [(c, 7), (rd, 5), (cutN v 12, 8), (cutN v 11, 1), (cutN v 1, 10), (cutN v 20, 1)] from rfl, show piecesv 7 c f3 f7 rd' rs1' rs2' v' = [(c, 7), (rd', 5), (cutN v' 12, 8), (cutN v' 11, 1), (cutN v' 1, 10), (cutN v' 20, 1)] from rfl] at hh
    simp only [List.map_cons, List.map_nil, List.cons.injEq, Nat.reducePow, and_true, true_and] at hh
    have r3 := (reg_t rd).1 h3; have r4 := (reg_f rs1).1 h4; have r5 := (reg_f rs2).1 h5; have r6 := (imm7 v).1 h6
    have s3 := (reg_t rd').1 g3; have s4 := (reg_f rs1').1 g4; have s5 := (reg_f rs2').1 g5; have s6 := (imm7 v').1 g6
    clear hw h3 h4 h5 h6 g3 g4 g5 g6
    obtain ⟨w1, w2, w3, w4, w5⟩ := hh
    exact ⟨by omega, by omega, by omega, inj7 v v' (sub1024 p1 q1 w4) (sub256 p12 q12 w2) (sub2 p11 q11 w3) (sub2 p20 q20 w5) r6 s6⟩
  · have hh := layv_inj _ _ (by rfl) hw
    rw [show piecesv 8 c f3 f7 rd rs1 rs2 v = [(c, 7), (rd, 5), (f3, 3), (rs1, 5), (rs2, 5), (f7, 7)] from rfl, show piecesv 8 c f3 f7 rd' rs1' rs2' v' = [(c, 7), (rd', 5), (f3, 3), (rs1', 5), (rs2', 5), (f7, 7)] from rfl] at hh
    simp only [List.map_cons, List.map_nil, List.cons.injEq, Nat.reducePow, and_true, true_and] at hh
    have r3 := (reg_f rd).1 h3; have r4 := (reg_f rs1).1 h4; have r5 := (reg_f rs2).1 h5; have r6 := (imm8 v).1 h6
    have s3 := (reg_f rd').1 g3; have s4 := (reg_f rs1').1 g4; have s5 := (reg_f rs2').1 g5; have s6 := (imm8 v').1 g6
    clear hw h3 h4 h5 h6 g3 g4 g5 g6
    clear p1 p11 p20 q1 q11 q20
    refine ⟨by omega, by omega, by omega, by omega⟩
end Go.Proofs.YtjkagpmepokihaaDoor
