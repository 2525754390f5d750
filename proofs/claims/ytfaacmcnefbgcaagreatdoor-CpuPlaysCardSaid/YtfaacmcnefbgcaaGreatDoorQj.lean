/- A machine in plain numbers: what a step makes, and what is seen of it. No conditions. -/
import Derived.Test.YtfaacmcnefbgcaaGreatDoorJd
import Derived.Test.YtfaacmcnefbgcaaGreatDoorQg
import Derived.Test.YtfaacmcnefbgcaaGreatDoorQi
namespace Go.Proofs.YtfaacmcnefbgcaaGreatDoor.m4
open Go.RowKit
set_option linter.unusedVariables false
/-- What is seen of a step. -/
structure Sn where
  pc : Nat
  k : Nat
  a : Nat
  b : Nat
  t : Bool
deriving DecidableEq
/-- A machine's state. -/
structure Ms where
  rv : Nat → Nat
  rt : Nat → Bool
  pc : Nat
  told : List (Nat × Bool)
  tr : List Sn
  ov : Bool
  cd : Nat
  wr : Int
  bv : Nat → Nat
  tv : Nat → Bool
def up1 {α : Type} (g : Nat → α) (i : Nat) (v : α) (k : Nat) : α := if k = i then v else g k
theorem up1_at {α : Type} (g : Nat → α) (i : Nat) (v : α) : up1 g i v i = v := if_pos rfl
theorem up1_ne {α : Type} (g : Nat → α) (i : Nat) (v : α) {k : Nat} (h : k ≠ i) : up1 g i v k = g k := if_neg h
/-- Laid into a register. -/
def lyV (rv : Nat → Nat) (i v : Nat) : Nat → Nat := if i = 0 then rv else up1 rv i v
def lyT (rt : Nat → Bool) (i : Nat) (t : Bool) : Nat → Bool := if i = 0 then rt else up1 rt i t
/-- A number as a word. -/
def uw (v : Int) : Nat := (v % 18446744073709551616).toNat
theorem uw_lt (v : Int) : uw v < 18446744073709551616 := by unfold uw; omega
theorem uw_wrap (v : Int) : IntKind.u64.wrap v = (uw v : Int) := by rw [IntKind.wrap_u64]; unfold uw; omega
/-- The sum of words. -/
def sm (a b : Nat) : Nat := (a + b) % 18446744073709551616
theorem sm_lt (a b : Nat) : sm a b < 18446744073709551616 := Nat.mod_lt _ (by omega)
theorem sm_wrap (a b : Nat) : IntKind.u64.wrap ((a : Int) + (b : Int)) = (sm a b : Int) := by rw [IntKind.wrap_u64]; unfold sm; omega
/-- Its lowest bit 0. -/
def ev (a : Nat) : Nat := a / 2 * 2
/-- The instruction of two registers that one with a number is like. -/
def likeN (op : Nat) : Nat := [1, 5, 6, 9, 10, 3, 7, 8].getD (op - 15) 0
/-- Is a branch taken? -/
def goesB (op a b : Nat) : Bool := if op = 28 then decide (a = b) else if op = 29 then decide (a ≠ b) else if op = 30 then decide (a < b) else decide (b ≤ a)
/-- What comes of a step: the error; where it goes on; registers, bytes; what is told; whether it is over, with which code; what is seen. -/
structure Ex where
  e : Int
  s : Ms
  n : Sn
def Ms.nx (s : Ms) : Nat := sm s.pc 4
def Ms.lay (s : Ms) (i v : Nat) (t : Bool) : Ms := { s with rv := lyV s.rv i v, rt := lyT s.rt i t }
def Ms.go (s : Ms) (p : Nat) : Ms := { s with pc := p }
def Ms.sn (s : Ms) : Sn := ⟨s.pc, 1, 0, 0, false⟩
def exTwo (s : Ms) (x : In) : Ex := ⟨0, (s.lay x.rd (opv x.op (s.rv x.rs1) (s.rv x.rs2)) (s.rt x.rs1 || s.rt x.rs2)).go s.nx, s.sn⟩
def exDiv (s : Ms) (x : In) : Ex := ⟨0, (s.lay x.rd (opv x.op (s.rv x.rs1) (s.rv x.rs2)) (s.rt x.rs1 || s.rt x.rs2)).go s.nx, ⟨s.pc, 4, s.rv x.rs1, s.rv x.rs2, s.rt x.rs1 || s.rt x.rs2⟩⟩
def exNum (s : Ms) (x : In) : Ex := ⟨0, (s.lay x.rd (opv (likeN x.op) (s.rv x.rs1) (uw x.imm)) (s.rt x.rs1)).go s.nx, s.sn⟩
def exLui (s : Ms) (x : In) : Ex := ⟨0, (s.lay x.rd (uw x.imm) false).go s.nx, s.sn⟩
def Ms.at (s : Ms) (x : In) : Nat := sm (s.rv x.rs1) (uw x.imm)
def exLoad (l : List Rg) (s : Ms) (x : In) (n : Int) : Ex :=
  ⟨(ldF l s.bv s.tv (s.at x) n).2.2, (s.lay x.rd (ldF l s.bv s.tv (s.at x) n).1 ((ldF l s.bv s.tv (s.at x) n).2.1 || s.rt x.rs1)).go s.nx, ⟨s.pc, 2, s.at x, 0, s.rt x.rs1⟩⟩
def Ms.put (s : Ms) (o : Option Nat) (n v : Nat) (t : Bool) : Ms := { s with bv := upO o s.bv n (wb v), tv := upO o s.tv n fun _ => t }
def exStore (l : List Rg) (s : Ms) (x : In) (n : Int) : Ex :=
  ⟨stE l (s.at x) n, (s.put (stO l (s.at x) n) n.toNat (s.rv x.rs2) (s.rt x.rs1 || s.rt x.rs2)).go s.nx, ⟨s.pc, 3, s.at x, 0, s.rt x.rs1⟩⟩
def exBr (s : Ms) (x : In) : Ex := ⟨0, s.go (if goesB x.op (s.rv x.rs1) (s.rv x.rs2) then sm s.pc (uw x.imm) else s.nx), ⟨s.pc, 1, 0, 0, s.rt x.rs1 || s.rt x.rs2⟩⟩
def exJal (s : Ms) (x : In) : Ex := ⟨0, (s.lay x.rd s.nx false).go (sm s.pc (uw x.imm)), s.sn⟩
def exJalr (s : Ms) (x : In) : Ex := ⟨0, (s.lay x.rd s.nx false).go (ev (s.at x)), ⟨s.pc, 1, 0, 0, s.rt x.rs1⟩⟩
def Ms.tell (s : Ms) : Ms := { s with told := s.told ++ [(s.rv 10, s.rt 10)], rt := up1 s.rt 10 false }
def Ms.halt (s : Ms) : Ms := { s with ov := true, cd := s.rv 17 }
def exCall (s : Ms) : Ex :=
  ⟨if 5 < s.rv 17 then 51 else 0, if s.rv 17 < 4 then s.halt else if s.rv 17 = 4 then s.tell.go s.nx else s.go s.nx, ⟨s.pc, 5, s.rv 17, 0, s.rt 17⟩⟩
/-- What an instruction does. -/
def exF (l : List Rg) (s : Ms) (x : In) : Ex :=
  if x.op ≤ 12 then exTwo s x else if x.op ≤ 14 then exDiv s x else if x.op ≤ 22 then exNum s x else if x.op = 23 then exLui s x
  else if x.op = 24 then exLoad l s x 1 else if x.op = 25 then exLoad l s x 8 else if x.op = 26 then exStore l s x 1 else if x.op = 27 then exStore l s x 8
  else if x.op ≤ 31 then exBr s x else if x.op = 32 then exJal s x else if x.op = 33 then exJalr s x else exCall s
def Ms.bad (s : Ms) (e : Int) : Ms := { s with ov := true, wr := e }
def Ms.seen (s : Ms) (n : Sn) : Ms := { s with tr := s.tr ++ [n] }
def exE (s : Ms) (r : Ex) : Int × Ms := if r.e = 0 then (0, r.s.seen r.n) else (r.e, s.bad r.e)
/-- A step that is taken. -/
def doF (l : List Rg) (s : Ms) : Int × Ms :=
  if (feF l s.bv s.pc).2 = 0 then (match decN (feF l s.bv s.pc).1 with | some x => exE s (exF l s x) | none => (7, s.bad 7)) else ((feF l s.bv s.pc).2, s.bad (feF l s.bv s.pc).2)
/-- Step. -/
def stF (l : List Rg) (s : Ms) : Int × Ms := if s.ov then (50, s) else if s.tr.length = 1048576 then (4, s) else doF l s
/-- What may be of a machine. -/
structure Ms.ok (s : Ms) : Prop where
  v : ∀ i, s.rv i < 18446744073709551616
  v0 : s.rv 0 = 0
  t0 : s.rt 0 = false
  p : s.pc < 18446744073709551616
  c : s.cd < 256
  n : s.tr.length ≤ 1048576
  b : ∀ k, s.bv k < 256
theorem lyV_lt {rv : Nat → Nat} {i v : Nat} (h : ∀ k, rv k < 18446744073709551616) (hv : v < 18446744073709551616) (k : Nat) : lyV rv i v k < 18446744073709551616 := by
  unfold lyV; split
  · exact h k
  · unfold up1; split
    · exact hv
    · exact h k
theorem lyV_0 {rv : Nat → Nat} {i v : Nat} (h : rv 0 = 0) : lyV rv i v 0 = 0 := by
  unfold lyV; split
  · exact h
  · unfold up1; rw [if_neg (by omega)]; exact h
theorem lyT_0 {rt : Nat → Bool} {i : Nat} {t : Bool} (h : rt 0 = false) : lyT rt i t 0 = false := by
  unfold lyT; split
  · exact h
  · unfold up1; rw [if_neg (by omega)]; exact h
theorem Ms.ok.lay {s : Ms} (h : s.ok) {i v : Nat} {t : Bool} (hv : v < 18446744073709551616) : (s.lay i v t).ok := ⟨lyV_lt h.v hv, lyV_0 h.v0, lyT_0 h.t0, h.p, h.c, h.n, h.b⟩
theorem Ms.ok.go {s : Ms} (h : s.ok) {p : Nat} (hp : p < 18446744073709551616) : (s.go p).ok := ⟨h.v, h.v0, h.t0, hp, h.c, h.n, h.b⟩
theorem Ms.ok.nx {s : Ms} : s.nx < 18446744073709551616 := sm_lt _ _
theorem upO_b8 {o : Option Nat} {n : Nat} {f g : Nat → Nat} (hg : ∀ k, g k < 256) (hf : ∀ k, f k < 256) (k : Nat) : upO o g n f k < 256 := by
  unfold upO; split
  · exact hg k
  · unfold upd; split
    · exact hf _
    · exact hg k
theorem Ms.ok.put {s : Ms} (h : s.ok) {o : Option Nat} {n v : Nat} {t : Bool} : (s.put o n v t).ok := ⟨h.v, h.v0, h.t0, h.p, h.c, h.n, upO_b8 h.b fun k => Nat.mod_lt _ (by omega)⟩
theorem ev_lt {a : Nat} (h : a < 18446744073709551616) : ev a < 18446744073709551616 := by unfold ev; omega
theorem ldF_lt (l : List Rg) {bv : Nat → Nat} (tv : Nat → Bool) (p : Nat) (n : Int) (hb : ∀ k, bv k < 256) : (ldF l bv tv p n).1 < 18446744073709551616 := by
  unfold ldF; split
  · exact (by decide)
  · split
    · exact (by decide)
    · split
      · exact (by decide)
      · exact ldv_lt64 hb _ _ (by omega)
/-- A step that does something keeps what may be, but for one more that is told. -/
theorem exF_ok {l : List Rg} {s : Ms} (h : s.ok) (x : In) (hl : s.tr.length < 1048576) : ((exF l s x).e = 0 → ((exF l s x).s.seen (exF l s x).n).ok) := by
  have key : ∀ r : Ms, r.ok → r.tr = s.tr → ∀ n, (r.seen n).ok := fun r hr e n =>
    ⟨hr.v, hr.v0, hr.t0, hr.p, hr.c, by show (r.tr ++ [n]).length ≤ _; rw [List.length_append, e]; simp; omega, hr.b⟩
  intro he
  unfold exF at he ⊢
  by_cases h1 : x.op ≤ 12
  · rw [if_pos h1]; exact key _ ((h.lay (opv_lt _ _ _ (h.v _) (h.v _))).go (sm_lt _ _)) rfl _
  rw [if_neg h1] at he ⊢
  by_cases h2 : x.op ≤ 14
  · rw [if_pos h2]; exact key _ ((h.lay (opv_lt _ _ _ (h.v _) (h.v _))).go (sm_lt _ _)) rfl _
  rw [if_neg h2] at he ⊢
  by_cases h3 : x.op ≤ 22
  · rw [if_pos h3]; exact key _ ((h.lay (opv_lt _ _ _ (h.v _) (uw_lt _))).go (sm_lt _ _)) rfl _
  rw [if_neg h3] at he ⊢
  by_cases h4 : x.op = 23
  · rw [if_pos h4]; exact key _ ((h.lay (uw_lt _)).go (sm_lt _ _)) rfl _
  rw [if_neg h4] at he ⊢
  by_cases h5 : x.op = 24
  · rw [if_pos h5]; exact key _ ((h.lay (ldF_lt _ _ _ _ h.b)).go (sm_lt _ _)) rfl _
  rw [if_neg h5] at he ⊢
  by_cases h6 : x.op = 25
  · rw [if_pos h6]; exact key _ ((h.lay (ldF_lt _ _ _ _ h.b)).go (sm_lt _ _)) rfl _
  rw [if_neg h6] at he ⊢
  by_cases h7 : x.op = 26
  · rw [if_pos h7]; exact key _ (h.put.go (sm_lt _ _)) rfl _
  rw [if_neg h7] at he ⊢
  by_cases h8 : x.op = 27
  · rw [if_pos h8]; exact key _ (h.put.go (sm_lt _ _)) rfl _
  rw [if_neg h8] at he ⊢
  by_cases h9 : x.op ≤ 31
  · rw [if_pos h9]
    have hb : (exBr s x).s.ok := h.go (by split <;> exact sm_lt _ _)
    exact key _ hb rfl _
  rw [if_neg h9] at he ⊢
  by_cases h10 : x.op = 32
  · rw [if_pos h10]; exact key _ ((h.lay (sm_lt _ _)).go (sm_lt _ _)) rfl _
  rw [if_neg h10] at he ⊢
  by_cases h11 : x.op = 33
  · rw [if_pos h11]; exact key _ ((h.lay (sm_lt _ _)).go (ev_lt (sm_lt _ _))) rfl _
  rw [if_neg h11] at he ⊢
  unfold exCall at he ⊢
  by_cases c1 : s.rv 17 < 4
  · simp only [if_pos c1]
    have hh : s.halt.ok := ⟨h.v, h.v0, h.t0, h.p, by show s.rv 17 < 256; omega, h.n, h.b⟩
    exact key _ hh rfl _
  simp only [if_neg c1]
  by_cases c2 : s.rv 17 = 4
  · simp only [if_pos c2]
    exact ⟨h.v, h.v0, by show up1 s.rt 10 false 0 = false; exact h.t0, sm_lt _ _, h.c, by show (s.tr ++ [_]).length ≤ _; rw [List.length_append]; simp; omega, h.b⟩
  · simp only [if_neg c2]
    exact key _ (h.go (sm_lt _ _)) rfl _
theorem doF_ok {l : List Rg} {s : Ms} (h : s.ok) (hl : s.tr.length < 1048576) : (doF l s).2.ok := by
  have hb : ∀ e, (s.bad e).ok := fun e => ⟨h.v, h.v0, h.t0, h.p, h.c, h.n, h.b⟩
  unfold doF
  split
  · split
    · unfold exE; split
      · exact exF_ok h _ hl (by assumption)
      · exact hb _
    · exact hb _
  · exact hb _
theorem stF_ok {l : List Rg} {s : Ms} (h : s.ok) : (stF l s).2.ok := by
  unfold stF; split
  · exact h
  · split
    · exact h
    · exact doF_ok h (by have := h.n; omega)
/-- No more is told than is seen. -/
def Ms.tk (s : Ms) : Prop := s.told.length ≤ s.tr.length
theorem exF_told (l : List Rg) (s : Ms) (x : In) : (exF l s x).s.told.length ≤ s.told.length + 1 ∧ (exF l s x).s.tr = s.tr := by
  unfold exF
  repeat' split
  all_goals first | exact ⟨Nat.le_succ _, rfl⟩ | skip
  unfold exCall
  simp only
  by_cases c1 : s.rv 17 < 4
  · rw [if_pos c1]; exact ⟨Nat.le_succ _, rfl⟩
  rw [if_neg c1]
  by_cases c2 : s.rv 17 = 4
  · rw [if_pos c2]; exact ⟨by show (s.told ++ [_]).length ≤ _; rw [List.length_append]; exact Nat.le_refl _, rfl⟩
  · rw [if_neg c2]; exact ⟨Nat.le_succ _, rfl⟩
theorem stF_tk {l : List Rg} {s : Ms} (h : s.tk) : (stF l s).2.tk := by
  unfold stF
  split
  · exact h
  split
  · exact h
  unfold doF
  split
  · split
    · unfold exE
      split
      · rename_i x _ _
        obtain ⟨h1, h2⟩ := exF_told l s x
        show (exF l s x).s.told.length ≤ ((exF l s x).s.tr ++ [_]).length
        rw [List.length_append, h2]
        unfold Ms.tk at h
        simp only [List.length_singleton]
        omega
      · exact h
    · exact h
  · exact h
end Go.Proofs.YtfaacmcnefbgcaaGreatDoor.m4

/- A machine in cells: the program's cpu.Cpu, and a step of it. No conditions. -/
namespace Go.Proofs.YtfaacmcnefbgcaaGreatDoor.m4
open Go.ChangeShapes Go.WideShapes Go.ChangeAt Go.RowKit
set_option linter.unusedVariables false
/-- Told numbers, in cells. -/
def tlC (p : Nat × Bool) : List Value := [.int .u64 p.1, .bool p.2]
def tlL (l : List (Nat × Bool)) : List Value := l.flatMap tlC
/-- What was seen, in cells. -/
def snC (n : Sn) : List Value := [.int .u64 n.pc, .int .u8 n.k, .int .u64 n.a, .int .u64 n.b, .bool n.t]
def snL (l : List Sn) : List Value := l.flatMap snC
theorem tlL_snoc (l : List (Nat × Bool)) (p : Nat × Bool) : tlL (l ++ [p]) = tlL l ++ tlC p := by simp [tlL]
theorem snL_snoc (l : List Sn) (n : Sn) : snL (l ++ [n]) = snL l ++ snC n := by simp [snL]
/-- Where a machine lies: its block, its memory, its two rows. -/
structure Mc where
  cb : Nat
  x : Mm
  vt : Value
  vr : Value
/-- The blocks that a machine writes. -/
def Mc.own (M : Mc) (j : Nat) : Prop := j = M.cb ∨ (j = M.x.vb ∨ j = M.x.tb) ∨ M.vt.ownBlock = some j ∨ M.vr.ownBlock = some j
/-- All blocks that a machine reads. -/
def Mc.all (M : Mc) (j : Nat) : Prop := M.own j ∨ j = M.x.mb ∨ j = M.x.ab
structure IsC (w : World) (M : Mc) (s : Ms) : Prop where
  c0 : w.cell? ⟨M.cb, 0, none⟩ = some (.pointer (some ⟨M.x.mb, 0, none⟩))
  rv : ∀ i < 32, w.cell? ⟨M.cb, 1 + i * 2, none⟩ = some (.int .u64 (s.rv i : Nat))
  rt : ∀ i < 32, w.cell? ⟨M.cb, 1 + i * 2 + 1, none⟩ = some (.bool (s.rt i))
  c65 : w.cell? ⟨M.cb, 65, none⟩ = some (.int .u64 (s.pc : Nat))
  c66 : w.cell? ⟨M.cb, 66, none⟩ = some M.vt
  c67 : w.cell? ⟨M.cb, 67, none⟩ = some M.vr
  c68 : w.cell? ⟨M.cb, 68, none⟩ = some (.bool s.ov)
  c69 : w.cell? ⟨M.cb, 69, none⟩ = some (.int .u8 (s.cd : Nat))
  c70 : w.cell? ⟨M.cb, 70, none⟩ = some (.int .i64 s.wr)
  fz : ∀ k, w.frozen? ⟨M.cb, k, none⟩ = false
  lt : M.cb < w.heap.size
  rowT : w.ownsRow 0 54 2 M.vt s.told.length (tlL s.told)
  rowR : w.ownsRow 0 82 5 M.vr s.tr.length (snL s.tr)
  mem : IsM w M.x s.bv s.tv
  n1 : M.cb ≠ M.x.mb ∧ M.cb ≠ M.x.ab ∧ M.cb ≠ M.x.vb ∧ M.cb ≠ M.x.tb
  n2 : ∀ j, M.vt.ownBlock = some j → j ≠ M.cb ∧ j ≠ M.x.mb ∧ j ≠ M.x.ab ∧ j ≠ M.x.vb ∧ j ≠ M.x.tb
  n3 : ∀ j, M.vr.ownBlock = some j → j ≠ M.cb ∧ j ≠ M.x.mb ∧ j ≠ M.x.ab ∧ j ≠ M.x.vb ∧ j ≠ M.x.tb
  n4 : ∀ j, M.vt.ownBlock = some j → M.vr.ownBlock ≠ some j
  ok : s.ok
theorem own_only {w w' : World} {base size n : Nat} {e : TypeId} {v : Value} {xs : List Value} {S : Nat → Prop} (h : w.ownsRow base e size v n xs) (ho : Only S w w') (hs : ∀ j, v.ownBlock = some j → ¬ S j) : w'.ownsRow base e size v n xs := by
  refine ⟨h.1, ?_⟩
  rcases h.2 with hn | ⟨g, cap, cur, hv, hb, hg, hr⟩
  · exact .inl hn
  · refine .inr ⟨g, cap, cur, hv, hb, ?_, hr⟩
    rw [ho.block g (Array.getElem?_eq_some_iff.1 hg).1 (hs g (by rw [hv]; rfl))]
    exact hg
theorem own_lt {w : World} {base size n j : Nat} {e : TypeId} {v : Value} {xs : List Value} (h : w.ownsRow base e size v n xs) (hj : v.ownBlock = some j) : j < w.heap.size := (h.lt j hj).2
/-- A machine stays where only other blocks change. -/
theorem IsC.only {w w' : World} {M : Mc} {s : Ms} {S : Nat → Prop} (h : IsC w M s) (ho : Only S w w') (hs : ∀ j, M.all j → ¬ S j) : IsC w' M s := by
  have a1 : ¬ S M.cb := hs _ (.inl (.inl rfl))
  have a2 : ¬ S M.x.vb := hs _ (.inl (.inr (.inl (.inl rfl))))
  have a3 : ¬ S M.x.tb := hs _ (.inl (.inr (.inl (.inr rfl))))
  have a4 : ¬ S M.x.mb := hs _ (.inr (.inl rfl))
  have a5 : ¬ S M.x.ab := hs _ (.inr (.inr rfl))
  exact { h with c0 := ho.cell a1 h.c0, rv := fun i hi => ho.cell a1 (h.rv i hi), rt := fun i hi => ho.cell a1 (h.rt i hi), c65 := ho.cell a1 h.c65, c66 := ho.cell a1 h.c66, c67 := ho.cell a1 h.c67, c68 := ho.cell a1 h.c68, c69 := ho.cell a1 h.c69, c70 := ho.cell a1 h.c70, fz := fun k => (ho.frozen (by exact h.lt) a1).trans (h.fz k), lt := Nat.lt_of_lt_of_le h.lt ho.size, rowT := own_only h.rowT ho (fun j hj => hs j (.inl (.inr (.inr (.inl hj))))), rowR := own_only h.rowR ho (fun j hj => hs j (.inl (.inr (.inr (.inr hj))))), mem := h.mem.only ho a4 a5 a2 a3 }
theorem IsC.of {w w' : World} {M : Mc} {s : Ms} (h : IsC w M s) (hb : Below w.heap.size w w') : IsC w' M s := h.only (only_below (S := fun _ => False) hb) (fun _ _ h => h)
theorem IsC.all_lt {w : World} {M : Mc} {s : Ms} (h : IsC w M s) {j : Nat} (hj : M.all j) : j < w.heap.size := by
  rcases hj with (rfl | (rfl | rfl) | hj | hj) | rfl | rfl
  · exact h.lt
  · exact h.mem.lv
  · exact h.mem.lt
  · exact own_lt h.rowT hj
  · exact own_lt h.rowR hj
  · exact World.block_lt_of_cell? w _ h.mem.ar.1
  · exact World.block_lt_of_cell? w _ (h.mem.ar.2 0 (by have := h.mem.may.2.1; omega)).1.1
/-- A step of a machine, in the midst: its block; its instruction, what the registers that it asks hold, what is seen, where the next one is. -/
structure IsS (w : World) (sb : Nat) (cb : Nat) (x : In) (a : Nat) (ta : Bool) (b : Nat) (tb : Bool) (n : Sn) (nx : Nat) : Prop where
  d0 : w.cell? ⟨sb, 0, none⟩ = some (.pointer (some ⟨cb, 0, none⟩))
  d1 : w.cell? ⟨sb, 1, none⟩ = some (.int .u8 (x.op : Nat))
  d2 : w.cell? ⟨sb, 2, none⟩ = some (.int .u8 (x.rd : Nat))
  d3 : w.cell? ⟨sb, 3, none⟩ = some (.int .u8 (x.rs1 : Nat))
  d4 : w.cell? ⟨sb, 4, none⟩ = some (.int .u8 (x.rs2 : Nat))
  d5 : w.cell? ⟨sb, 5, none⟩ = some (.int .i64 x.imm)
  d6 : w.cell? ⟨sb, 6, none⟩ = some (.int .u64 (a : Nat))
  d7 : w.cell? ⟨sb, 7, none⟩ = some (.bool ta)
  d8 : w.cell? ⟨sb, 8, none⟩ = some (.int .u64 (b : Nat))
  d9 : w.cell? ⟨sb, 9, none⟩ = some (.bool tb)
  d10 : w.cell? ⟨sb, 10, none⟩ = some (.int .u64 (n.pc : Nat))
  d11 : w.cell? ⟨sb, 11, none⟩ = some (.int .u8 (n.k : Nat))
  d12 : w.cell? ⟨sb, 12, none⟩ = some (.int .u64 (n.a : Nat))
  d13 : w.cell? ⟨sb, 13, none⟩ = some (.int .u64 (n.b : Nat))
  d14 : w.cell? ⟨sb, 14, none⟩ = some (.bool n.t)
  d15 : w.cell? ⟨sb, 15, none⟩ = some (.int .u64 (nx : Nat))
  fz : ∀ k, w.frozen? ⟨sb, k, none⟩ = false
  lt : sb < w.heap.size
theorem IsS.only {w w' : World} {sb cb a b nx : Nat} {x : In} {ta tb : Bool} {n : Sn} {S : Nat → Prop} (h : IsS w sb cb x a ta b tb n nx) (ho : Only S w w') (hs : ¬ S sb) : IsS w' sb cb x a ta b tb n nx :=
  { d0 := ho.cell hs h.d0, d1 := ho.cell hs h.d1, d2 := ho.cell hs h.d2, d3 := ho.cell hs h.d3, d4 := ho.cell hs h.d4, d5 := ho.cell hs h.d5, d6 := ho.cell hs h.d6, d7 := ho.cell hs h.d7, d8 := ho.cell hs h.d8, d9 := ho.cell hs h.d9, d10 := ho.cell hs h.d10, d11 := ho.cell hs h.d11, d12 := ho.cell hs h.d12, d13 := ho.cell hs h.d13, d14 := ho.cell hs h.d14, d15 := ho.cell hs h.d15, fz := fun k => (ho.frozen (by exact h.lt) hs).trans (h.fz k), lt := Nat.lt_of_lt_of_le h.lt ho.size }
theorem IsS.of {w w' : World} {sb cb a b nx : Nat} {x : In} {ta tb : Bool} {n : Sn} (h : IsS w sb cb x a ta b tb n nx) (hb : Below w.heap.size w w') : IsS w' sb cb x a ta b tb n nx := h.only (only_below (S := fun _ => False) hb) (fun h => h)
/-- A cell of a block is set: what the block's others hold stays. -/
theorem cset {w : World} {b o : Nat} {u v' : Value} (v : Value) (h : w.cell? ⟨b, o, none⟩ = some u) {j : Nat} (hj : j ≠ o) (hc : w.cell? ⟨b, j, none⟩ = some v') : (w.setCell ⟨b, o, none⟩ v).cell? ⟨b, j, none⟩ = some v' := by
  rw [cell_set v h j, if_neg hj]; exact hc
theorem cset_same {w : World} {b o : Nat} {u : Value} (v : Value) (h : w.cell? ⟨b, o, none⟩ = some u) : (w.setCell ⟨b, o, none⟩ v).cell? ⟨b, o, none⟩ = some v := by
  rw [cell_set v h o, if_pos rfl]
/-- A machine's own block is set at a place: its rows and its memory stay. -/
theorem IsC.setRest {w : World} {M : Mc} {s : Ms} (h : IsC w M s) (o : Nat) (v : Value) :
    (w.setCell ⟨M.cb, o, none⟩ v).ownsRow 0 54 2 M.vt s.told.length (tlL s.told) ∧ (w.setCell ⟨M.cb, o, none⟩ v).ownsRow 0 82 5 M.vr s.tr.length (snL s.tr) ∧ IsM (w.setCell ⟨M.cb, o, none⟩ v) M.x s.bv s.tv ∧ M.cb < (w.setCell ⟨M.cb, o, none⟩ v).heap.size ∧ ∀ k, (w.setCell ⟨M.cb, o, none⟩ v).frozen? ⟨M.cb, k, none⟩ = false := by
  have O := only_one w M.cb o v
  exact ⟨own_only h.rowT O (fun j hj => (h.n2 j hj).1), own_only h.rowR O (fun j hj => (h.n3 j hj).1), h.mem.only O (fun e => h.n1.1 e.symm) (fun e => h.n1.2.1 e.symm) (fun e => h.n1.2.2.1 e.symm) (fun e => h.n1.2.2.2 e.symm), by rw [World.size_setCell]; exact h.lt, fun k => by rw [World.frozen?_setCell]; exact h.fz k⟩
theorem up1_lt {g : Nat → Nat} {i v m : Nat} (h : ∀ k, g k < m) (hv : v < m) (k : Nat) : up1 g i v k < m := by
  unfold up1; split
  · exact hv
  · exact h k
theorem IsC.setV {w : World} {M : Mc} {s : Ms} (h : IsC w M s) {i v : Nat} (hi : i < 32) (h0 : i ≠ 0) (hv : v < 18446744073709551616) : IsC (w.setCell ⟨M.cb, 1 + i * 2, none⟩ (.int .u64 (v : Nat))) M { s with rv := up1 s.rv i v } := by
  obtain ⟨r1, r2, r3, r4, r5⟩ := h.setRest (1 + i * 2) (.int .u64 (v : Nat))
  have c := h.rv i hi
  exact { h with
    c0 := cset _ c (by omega) h.c0
    rv := fun k hk => by
      by_cases e : k = i
      · subst e; rw [cset_same _ c]; show _ = some (Value.int .u64 (up1 s.rv k v k : Nat)); rw [up1_at]
      · rw [cset _ c (by omega) (h.rv k hk)]; show _ = some (Value.int .u64 (up1 s.rv i v k : Nat)); rw [up1_ne _ _ _ e]
    rt := fun k hk => cset _ c (by omega) (h.rt k hk)
    c65 := cset _ c (by omega) h.c65, c66 := cset _ c (by omega) h.c66, c67 := cset _ c (by omega) h.c67, c68 := cset _ c (by omega) h.c68, c69 := cset _ c (by omega) h.c69, c70 := cset _ c (by omega) h.c70
    fz := r5, lt := r4, rowT := r1, rowR := r2, mem := r3
    ok := { h.ok with v := up1_lt h.ok.v hv, v0 := (up1_ne s.rv i v (Ne.symm h0)).trans h.ok.v0 } }
theorem IsC.setT {w : World} {M : Mc} {s : Ms} (h : IsC w M s) {i : Nat} {t : Bool} (hi : i < 32) (h0 : i ≠ 0) : IsC (w.setCell ⟨M.cb, 1 + i * 2 + 1, none⟩ (.bool t)) M { s with rt := up1 s.rt i t } := by
  obtain ⟨r1, r2, r3, r4, r5⟩ := h.setRest (1 + i * 2 + 1) (.bool t)
  have c := h.rt i hi
  exact { h with
    c0 := cset _ c (by omega) h.c0
    rv := fun k hk => cset _ c (by omega) (h.rv k hk)
    rt := fun k hk => by
      by_cases e : k = i
      · subst e; rw [cset_same _ c]; show _ = some (Value.bool (up1 s.rt k t k)); rw [up1_at]
      · rw [cset _ c (by omega) (h.rt k hk)]; show _ = some (Value.bool (up1 s.rt i t k)); rw [up1_ne _ _ _ e]
    c65 := cset _ c (by omega) h.c65, c66 := cset _ c (by omega) h.c66, c67 := cset _ c (by omega) h.c67, c68 := cset _ c (by omega) h.c68, c69 := cset _ c (by omega) h.c69, c70 := cset _ c (by omega) h.c70
    fz := r5, lt := r4, rowT := r1, rowR := r2, mem := r3
    ok := { h.ok with t0 := (up1_ne s.rt i t (Ne.symm h0)).trans h.ok.t0 } }
theorem IsC.lay {w : World} {M : Mc} {s : Ms} (h : IsC w M s) {i v : Nat} {t : Bool} (hi : i < 32) (h0 : i ≠ 0) (hv : v < 18446744073709551616) : IsC ((w.setCell ⟨M.cb, 1 + i * 2, none⟩ (.int .u64 (v : Nat))).setCell ⟨M.cb, 1 + i * 2 + 1, none⟩ (.bool t)) M (s.lay i v t) := by
  have := (h.setV hi h0 hv).setT (t := t) hi h0
  unfold Ms.lay lyV lyT
  rw [if_neg h0, if_neg h0]
  exact this
theorem IsC.setPc {w : World} {M : Mc} {s : Ms} (h : IsC w M s) {v : Nat} (hv : v < 18446744073709551616) : IsC (w.setCell ⟨M.cb, 65, none⟩ (.int .u64 (v : Nat))) M (s.go v) := by
  obtain ⟨r1, r2, r3, r4, r5⟩ := h.setRest 65 (.int .u64 (v : Nat))
  have c := h.c65
  exact { h with
    c0 := cset _ c (by omega) h.c0, rv := fun k hk => cset _ c (by omega) (h.rv k hk), rt := fun k hk => cset _ c (by omega) (h.rt k hk)
    c65 := cset_same _ c, c66 := cset _ c (by omega) h.c66, c67 := cset _ c (by omega) h.c67, c68 := cset _ c (by omega) h.c68, c69 := cset _ c (by omega) h.c69, c70 := cset _ c (by omega) h.c70
    fz := r5, lt := r4, rowT := r1, rowR := r2, mem := r3, ok := h.ok.go hv }
theorem IsC.setOv {w : World} {M : Mc} {s : Ms} (h : IsC w M s) : IsC (w.setCell ⟨M.cb, 68, none⟩ (.bool true)) M { s with ov := true } := by
  obtain ⟨r1, r2, r3, r4, r5⟩ := h.setRest 68 (.bool true)
  have c := h.c68
  exact { h with
    c0 := cset _ c (by omega) h.c0, rv := fun k hk => cset _ c (by omega) (h.rv k hk), rt := fun k hk => cset _ c (by omega) (h.rt k hk)
    c65 := cset _ c (by omega) h.c65, c66 := cset _ c (by omega) h.c66, c67 := cset _ c (by omega) h.c67, c68 := cset_same _ c, c69 := cset _ c (by omega) h.c69, c70 := cset _ c (by omega) h.c70
    fz := r5, lt := r4, rowT := r1, rowR := r2, mem := r3, ok := { h.ok with } }
theorem IsC.setCd {w : World} {M : Mc} {s : Ms} (h : IsC w M s) {v : Nat} (hv : v < 256) : IsC (w.setCell ⟨M.cb, 69, none⟩ (.int .u8 (v : Nat))) M { s with cd := v } := by
  obtain ⟨r1, r2, r3, r4, r5⟩ := h.setRest 69 (.int .u8 (v : Nat))
  have c := h.c69
  exact { h with
    c0 := cset _ c (by omega) h.c0, rv := fun k hk => cset _ c (by omega) (h.rv k hk), rt := fun k hk => cset _ c (by omega) (h.rt k hk)
    c65 := cset _ c (by omega) h.c65, c66 := cset _ c (by omega) h.c66, c67 := cset _ c (by omega) h.c67, c68 := cset _ c (by omega) h.c68, c69 := cset_same _ c, c70 := cset _ c (by omega) h.c70
    fz := r5, lt := r4, rowT := r1, rowR := r2, mem := r3, ok := { h.ok with c := hv } }
theorem IsC.setWr {w : World} {M : Mc} {s : Ms} (h : IsC w M s) (e : Int) : IsC (w.setCell ⟨M.cb, 70, none⟩ (.int .i64 e)) M { s with wr := e } := by
  obtain ⟨r1, r2, r3, r4, r5⟩ := h.setRest 70 (.int .i64 e)
  have c := h.c70
  exact { h with
    c0 := cset _ c (by omega) h.c0, rv := fun k hk => cset _ c (by omega) (h.rv k hk), rt := fun k hk => cset _ c (by omega) (h.rt k hk)
    c65 := cset _ c (by omega) h.c65, c66 := cset _ c (by omega) h.c66, c67 := cset _ c (by omega) h.c67, c68 := cset _ c (by omega) h.c68, c69 := cset _ c (by omega) h.c69, c70 := cset_same _ c
    fz := r5, lt := r4, rowT := r1, rowR := r2, mem := r3, ok := { h.ok with } }
/-- The memory is written. -/
theorem IsC.wrt {w w' : World} {M : Mc} {s : Ms} {bv : Nat → Nat} {tv : Nat → Bool} (h : IsC w M s) (hW : Wrt M.x bv tv w w') : IsC w' M { s with bv := bv, tv := tv } := by
  obtain ⟨hI, ho⟩ := hW
  have a1 : ¬ (M.cb = M.x.vb ∨ M.cb = M.x.tb) := by rintro (e | e); exact h.n1.2.2.1 e; exact h.n1.2.2.2 e
  exact { h with
    c0 := ho.cell a1 h.c0, rv := fun i hi => ho.cell a1 (h.rv i hi), rt := fun i hi => ho.cell a1 (h.rt i hi), c65 := ho.cell a1 h.c65, c66 := ho.cell a1 h.c66, c67 := ho.cell a1 h.c67, c68 := ho.cell a1 h.c68, c69 := ho.cell a1 h.c69, c70 := ho.cell a1 h.c70
    fz := fun k => (ho.frozen (by exact h.lt) a1).trans (h.fz k), lt := Nat.lt_of_lt_of_le h.lt ho.size
    rowT := own_only h.rowT ho (fun j hj e => by rcases e with e | e; exact (h.n2 j hj).2.2.2.1 e; exact (h.n2 j hj).2.2.2.2 e)
    rowR := own_only h.rowR ho (fun j hj e => by rcases e with e | e; exact (h.n3 j hj).2.2.2.1 e; exact (h.n3 j hj).2.2.2.2 e)
    mem := hI, ok := { h.ok with b := hI.b8 } }
/-- A step's block is none of the machine's. -/
theorem only_sb {w : World} {sb o : Nat} {v : Value} {M : Mc} : Only (fun j => M.own j ∨ j = sb) w (w.setCell ⟨sb, o, none⟩ v) := (Only.refl _ w).setCell (Or.inr rfl)
theorem only_cb {w : World} {sb o : Nat} {v : Value} {M : Mc} : Only (fun j => M.own j ∨ j = sb) w (w.setCell ⟨M.cb, o, none⟩ v) := (Only.refl _ w).setCell (Or.inl (Or.inl rfl))
end Go.Proofs.YtfaacmcnefbgcaaGreatDoor.m4
