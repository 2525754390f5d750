/- The document's machine in cells (sacristyref05.Cpu), and what its stores leave. No conditions. -/
import Derived.Test.YtfaacmcnefbgcaaGreatDoorJe
import Derived.Test.YtfaacmcnefbgcaaGreatDoorJg
import Derived.Test.YtfaacmcnefbgcaaGreatDoorJj
namespace Go.Proofs.YtfaacmcnefbgcaaGreatDoor.m4
open Go.ChangeShapes Go.WideShapes Go.ChangeAt Go.RowKit
set_option linter.unusedVariables false
/-- Where the document's machine lies: its block, its memory, its two rows. -/
structure Dc where
  db : Nat
  y : Mr
  vt : Value
  vr : Value
def Mr.hd (y : Mr) (j : Nat) : Prop := j = y.rb ∨ j = y.lb ∨ j = y.bb ∨ j = y.ub
def Dc.own (D : Dc) (j : Nat) : Prop := j = D.db ∨ D.y.bl j ∨ D.vt.ownBlock = some j ∨ D.vr.ownBlock = some j
def Dc.all (D : Dc) (j : Nat) : Prop := D.own j ∨ D.y.hd j
structure IsD (w : World) (D : Dc) (s : Ms) : Prop where
  e0 : w.cell? ⟨D.db, 0, none⟩ = some (.pointer (some ⟨D.y.rb, 0, none⟩))
  e1 : w.cell? ⟨D.db, 1, none⟩ = some (.int .u64 (s.pc : Nat))
  rv : ∀ i < 32, w.cell? ⟨D.db, 2 + i, none⟩ = some (.int .u64 (s.rv i : Nat))
  rt : ∀ i < 32, w.cell? ⟨D.db, 34 + i, none⟩ = some (.bool (s.rt i))
  e66 : w.cell? ⟨D.db, 66, none⟩ = some (.bool s.ov)
  e67 : w.cell? ⟨D.db, 67, none⟩ = some (.int .u8 (s.cd : Nat))
  e68 : w.cell? ⟨D.db, 68, none⟩ = some (.int .i64 s.wr)
  e69 : w.cell? ⟨D.db, 69, none⟩ = some D.vt
  e70 : w.cell? ⟨D.db, 70, none⟩ = some D.vr
  fz : ∀ k, w.frozen? ⟨D.db, k, none⟩ = false
  lt : D.db < w.heap.size
  rowT : w.ownsRow 0 54 2 D.vt s.told.length (tlL s.told)
  rowR : w.ownsRow 0 82 5 D.vr s.tr.length (snL s.tr)
  mem : IsR w D.y s.bv s.tv
  n0 : ¬ D.y.hd D.db ∧ ¬ D.y.bl D.db
  n2 : ∀ j, D.vt.ownBlock = some j → j ≠ D.db ∧ ¬ D.y.hd j ∧ ¬ D.y.bl j
  n3 : ∀ j, D.vr.ownBlock = some j → j ≠ D.db ∧ ¬ D.y.hd j ∧ ¬ D.y.bl j
  n4 : ∀ j, D.vt.ownBlock = some j → D.vr.ownBlock ≠ some j
  ok : s.ok
theorem IsR.only' {w w' : World} {y : Mr} {bv : Nat → Nat} {tv : Nat → Bool} {S : Nat → Prop} (h : IsR w y bv tv) (ho : Only S w w') (hs : ∀ j, y.hd j ∨ y.bl j → ¬ S j) : IsR w' y bv tv :=
  h.only ho (hs _ (.inl (.inl rfl))) (hs _ (.inl (.inr (.inl rfl)))) (hs _ (.inl (.inr (.inr (.inl rfl))))) (hs _ (.inl (.inr (.inr (.inr rfl))))) (fun j hj => hs j (.inr hj))
/-- It stays where only other blocks change. -/
theorem IsD.only {w w' : World} {D : Dc} {s : Ms} {S : Nat → Prop} (h : IsD w D s) (ho : Only S w w') (hs : ∀ j, D.all j → ¬ S j) : IsD w' D s := by
  have a1 : ¬ S D.db := hs _ (.inl (.inl rfl))
  exact { h with e0 := ho.cell a1 h.e0, e1 := ho.cell a1 h.e1, rv := fun i hi => ho.cell a1 (h.rv i hi), rt := fun i hi => ho.cell a1 (h.rt i hi), e66 := ho.cell a1 h.e66, e67 := ho.cell a1 h.e67, e68 := ho.cell a1 h.e68, e69 := ho.cell a1 h.e69, e70 := ho.cell a1 h.e70, fz := fun k => (ho.frozen (by exact h.lt) a1).trans (h.fz k), lt := Nat.lt_of_lt_of_le h.lt ho.size, rowT := own_only h.rowT ho (fun j hj => hs j (.inl (.inr (.inr (.inl hj))))), rowR := own_only h.rowR ho (fun j hj => hs j (.inl (.inr (.inr (.inr hj))))), mem := h.mem.only' ho (fun j hj => by rcases hj with hj | hj; exact hs j (.inr hj); exact hs j (.inl (.inr (.inl hj)))) }
theorem IsD.of {w w' : World} {D : Dc} {s : Ms} (h : IsD w D s) (hb : Below w.heap.size w w') : IsD w' D s := h.only (only_below (S := fun _ => False) hb) (fun _ _ h => h)
/-- Its own block is set at a place: its rows and its memory stay. -/
theorem IsD.setRest {w : World} {D : Dc} {s : Ms} (h : IsD w D s) (o : Nat) (v : Value) :
    (w.setCell ⟨D.db, o, none⟩ v).ownsRow 0 54 2 D.vt s.told.length (tlL s.told) ∧ (w.setCell ⟨D.db, o, none⟩ v).ownsRow 0 82 5 D.vr s.tr.length (snL s.tr) ∧ IsR (w.setCell ⟨D.db, o, none⟩ v) D.y s.bv s.tv ∧ D.db < (w.setCell ⟨D.db, o, none⟩ v).heap.size ∧ ∀ k, (w.setCell ⟨D.db, o, none⟩ v).frozen? ⟨D.db, k, none⟩ = false := by
  have O := only_one w D.db o v
  exact ⟨own_only h.rowT O (fun j hj => (h.n2 j hj).1), own_only h.rowR O (fun j hj => (h.n3 j hj).1), h.mem.only' O (fun j hj e => by subst e; rcases hj with hj | hj; exact h.n0.1 hj; exact h.n0.2 hj), by rw [World.size_setCell]; exact h.lt, fun k => by rw [World.frozen?_setCell]; exact h.fz k⟩
theorem IsD.setV {w : World} {D : Dc} {s : Ms} (h : IsD w D s) {i v : Nat} (hi : i < 32) (h0 : i ≠ 0) (hv : v < 18446744073709551616) : IsD (w.setCell ⟨D.db, 2 + i, none⟩ (.int .u64 (v : Nat))) D ({ s with rv := up1 s.rv i v }) := by
  obtain ⟨r1, r2, r3, r4, r5⟩ := h.setRest (2 + i) (.int .u64 (v : Nat))
  have c := h.rv i hi
  exact { h with
    e0 := cset _ c (by omega) h.e0
    e1 := cset _ c (by omega) h.e1
    e66 := cset _ c (by omega) h.e66
    e67 := cset _ c (by omega) h.e67
    e68 := cset _ c (by omega) h.e68
    e69 := cset _ c (by omega) h.e69
    e70 := cset _ c (by omega) h.e70
    rv := fun k hk => by
      by_cases e : k = i
      · subst e; rw [cset_same _ c]; show _ = some (Value.int .u64 (up1 s.rv k v k : Nat)); rw [up1_at]
      · rw [cset _ c (by omega) (h.rv k hk)]; show _ = some (Value.int .u64 (up1 s.rv i v k : Nat)); rw [up1_ne _ _ _ e]
    rt := fun k hk => cset _ c (by omega) (h.rt k hk)
    fz := r5
    lt := r4
    rowT := r1
    rowR := r2
    mem := r3
    ok := { h.ok with v := up1_lt h.ok.v hv, v0 := (up1_ne s.rv i v (Ne.symm h0)).trans h.ok.v0 } }
theorem IsD.setT {w : World} {D : Dc} {s : Ms} (h : IsD w D s) {i : Nat} {t : Bool} (hi : i < 32) (h0 : i ≠ 0) : IsD (w.setCell ⟨D.db, 34 + i, none⟩ (.bool t)) D ({ s with rt := up1 s.rt i t }) := by
  obtain ⟨r1, r2, r3, r4, r5⟩ := h.setRest (34 + i) (.bool t)
  have c := h.rt i hi
  exact { h with
    e0 := cset _ c (by omega) h.e0
    e1 := cset _ c (by omega) h.e1
    e66 := cset _ c (by omega) h.e66
    e67 := cset _ c (by omega) h.e67
    e68 := cset _ c (by omega) h.e68
    e69 := cset _ c (by omega) h.e69
    e70 := cset _ c (by omega) h.e70
    rv := fun k hk => cset _ c (by omega) (h.rv k hk)
    rt := fun k hk => by
      by_cases e : k = i
      · subst e; rw [cset_same _ c]; show _ = some (Value.bool (up1 s.rt k t k)); rw [up1_at]
      · rw [cset _ c (by omega) (h.rt k hk)]; show _ = some (Value.bool (up1 s.rt i t k)); rw [up1_ne _ _ _ e]
    fz := r5
    lt := r4
    rowT := r1
    rowR := r2
    mem := r3
    ok := { h.ok with t0 := (up1_ne s.rt i t (Ne.symm h0)).trans h.ok.t0 } }
theorem IsD.setPc {w : World} {D : Dc} {s : Ms} (h : IsD w D s) {v : Nat} (hv : v < 18446744073709551616) : IsD (w.setCell ⟨D.db, 1, none⟩ (.int .u64 (v : Nat))) D (s.go v) := by
  obtain ⟨r1, r2, r3, r4, r5⟩ := h.setRest (1) (.int .u64 (v : Nat))
  have c := h.e1
  exact { h with
    e0 := cset _ c (by omega) h.e0
    e1 := cset_same _ c
    e66 := cset _ c (by omega) h.e66
    e67 := cset _ c (by omega) h.e67
    e68 := cset _ c (by omega) h.e68
    e69 := cset _ c (by omega) h.e69
    e70 := cset _ c (by omega) h.e70
    rv := fun k hk => cset _ c (by omega) (h.rv k hk)
    rt := fun k hk => cset _ c (by omega) (h.rt k hk)
    fz := r5
    lt := r4
    rowT := r1
    rowR := r2
    mem := r3
    ok := h.ok.go hv }
theorem IsD.setOv {w : World} {D : Dc} {s : Ms} (h : IsD w D s)  : IsD (w.setCell ⟨D.db, 66, none⟩ (.bool true)) D ({ s with ov := true }) := by
  obtain ⟨r1, r2, r3, r4, r5⟩ := h.setRest (66) (.bool true)
  have c := h.e66
  exact { h with
    e0 := cset _ c (by omega) h.e0
    e1 := cset _ c (by omega) h.e1
    e66 := cset_same _ c
    e67 := cset _ c (by omega) h.e67
    e68 := cset _ c (by omega) h.e68
    e69 := cset _ c (by omega) h.e69
    e70 := cset _ c (by omega) h.e70
    rv := fun k hk => cset _ c (by omega) (h.rv k hk)
    rt := fun k hk => cset _ c (by omega) (h.rt k hk)
    fz := r5
    lt := r4
    rowT := r1
    rowR := r2
    mem := r3
    ok := { h.ok with } }
theorem IsD.setCd {w : World} {D : Dc} {s : Ms} (h : IsD w D s) {v : Nat} (hv : v < 256) : IsD (w.setCell ⟨D.db, 67, none⟩ (.int .u8 (v : Nat))) D ({ s with cd := v }) := by
  obtain ⟨r1, r2, r3, r4, r5⟩ := h.setRest (67) (.int .u8 (v : Nat))
  have c := h.e67
  exact { h with
    e0 := cset _ c (by omega) h.e0
    e1 := cset _ c (by omega) h.e1
    e66 := cset _ c (by omega) h.e66
    e67 := cset_same _ c
    e68 := cset _ c (by omega) h.e68
    e69 := cset _ c (by omega) h.e69
    e70 := cset _ c (by omega) h.e70
    rv := fun k hk => cset _ c (by omega) (h.rv k hk)
    rt := fun k hk => cset _ c (by omega) (h.rt k hk)
    fz := r5
    lt := r4
    rowT := r1
    rowR := r2
    mem := r3
    ok := { h.ok with c := hv } }
theorem IsD.setWr {w : World} {D : Dc} {s : Ms} (h : IsD w D s) (e : Int)  : IsD (w.setCell ⟨D.db, 68, none⟩ (.int .i64 e)) D ({ s with wr := e }) := by
  obtain ⟨r1, r2, r3, r4, r5⟩ := h.setRest (68) (.int .i64 e)
  have c := h.e68
  exact { h with
    e0 := cset _ c (by omega) h.e0
    e1 := cset _ c (by omega) h.e1
    e66 := cset _ c (by omega) h.e66
    e67 := cset _ c (by omega) h.e67
    e68 := cset_same _ c
    e69 := cset _ c (by omega) h.e69
    e70 := cset _ c (by omega) h.e70
    rv := fun k hk => cset _ c (by omega) (h.rv k hk)
    rt := fun k hk => cset _ c (by omega) (h.rt k hk)
    fz := r5
    lt := r4
    rowT := r1
    rowR := r2
    mem := r3
    ok := { h.ok with } }
theorem IsD.lay {w : World} {D : Dc} {s : Ms} (h : IsD w D s) {i v : Nat} {t : Bool} (hi : i < 32) (h0 : i ≠ 0) (hv : v < 18446744073709551616) : IsD ((w.setCell ⟨D.db, 2 + i, none⟩ (.int .u64 (v : Nat))).setCell ⟨D.db, 34 + i, none⟩ (.bool t)) D (s.lay i v t) := by
  have := (h.setV hi h0 hv).setT (t := t) hi h0
  unfold Ms.lay lyV lyT
  rw [if_neg h0, if_neg h0]
  exact this
/-- The memory is written. -/
theorem IsD.wrt {w w' : World} {D : Dc} {s : Ms} {bv : Nat → Nat} {tv : Nat → Bool} (h : IsD w D s) (hW : WrR D.y bv tv w w') : IsD w' D { s with bv := bv, tv := tv } := by
  obtain ⟨hI, ho⟩ := hW
  have a1 := h.n0.2
  exact { h with
    e0 := ho.cell a1 h.e0
    e1 := ho.cell a1 h.e1
    rv := fun i hi => ho.cell a1 (h.rv i hi)
    rt := fun i hi => ho.cell a1 (h.rt i hi)
    e66 := ho.cell a1 h.e66
    e67 := ho.cell a1 h.e67
    e68 := ho.cell a1 h.e68
    e69 := ho.cell a1 h.e69
    e70 := ho.cell a1 h.e70
    fz := fun k => (ho.frozen (by exact h.lt) a1).trans (h.fz k)
    lt := Nat.lt_of_lt_of_le h.lt ho.size
    rowT := own_only h.rowT ho (fun j hj => (h.n2 j hj).2.2)
    rowR := own_only h.rowR ho (fun j hj => (h.n3 j hj).2.2)
    mem := hI
    ok := { h.ok with b := hI.b8 } }
theorem IsD.all_lt {w : World} {D : Dc} {s : Ms} (h : IsD w D s) {j : Nat} (hj : D.all j) : j < w.heap.size := by
  rcases hj with (rfl | ⟨i, hi, rfl | rfl⟩ | hj | hj) | rfl | rfl | rfl | rfl
  · exact h.lt
  · exact h.mem.lv i hi
  · exact h.mem.lt i hi
  · exact own_lt h.rowT hj
  · exact own_lt h.rowR hj
  · exact World.block_lt_of_cell? w _ h.mem.rr.h0
  · exact World.block_lt_of_cell? w _ (h.mem.rr.row 0 (by have := h.mem.may.2.1; omega)).1
  · exact World.block_lt_of_cell? w _ (h.mem.rr.hb 0 (by have := h.mem.may.2.1; omega))
  · exact World.block_lt_of_cell? w _ (h.mem.rr.ht 0 (by have := h.mem.may.2.1; omega))
/-- What a call leaves of where the machine lies. -/
def Dc.nxt (w0 : World) (D D' : Dc) : Prop := D'.db = D.db ∧ D'.y = D.y ∧ ∀ j, D'.own j → D.own j ∨ w0.heap.size ≤ j
theorem Dc.nxt_refl (w0 : World) (D : Dc) : Dc.nxt w0 D D := ⟨rfl, rfl, fun j h => .inl h⟩

theorem IsD.growT {w w5 : World} {D : Dc} {s : Ms} (h : IsD w D s) {v' : Value} {t' : List (Nat × Bool)} (hg : w.grownBy w5 D.vt.ownBlock) (ho : w5.ownsRow 0 54 2 v' t'.length (tlL t')) (hb : ∀ j, v'.ownBlock = some j → D.vt.ownBlock = some j ∨ w.heap.size ≤ j) :
    IsD (w5.setCell ⟨D.db, 69, none⟩ v') ⟨D.db, D.y, v', D.vr⟩ { s with told := t' } := by
  have O := only_grown hg
  have ncb : ¬ some D.db = D.vt.ownBlock := fun e => (h.n2 _ e.symm).1 rfl
  have cc := O.cell (a := ⟨D.db, 69, none⟩) ncb h.e69
  have O2 := only_one w5 D.db 69 v'
  have hn : ∀ j, v'.ownBlock = some j → j ≠ D.db ∧ ¬ D.y.hd j ∧ ¬ D.y.bl j := fun j hj => by
    rcases hb j hj with h1 | h1
    · exact h.n2 j h1
    · exact ⟨fun e => by have := h.lt; omega, fun e => by have := h.all_lt (.inr e); omega, fun e => by have := h.all_lt (.inl (.inr (.inl e))); omega⟩
  have rO : w5.ownsRow 0 82 5 D.vr s.tr.length (snL s.tr) := own_only h.rowR O (fun j hj e => h.n4 j e.symm hj)
  have me : IsR w5 D.y s.bv s.tv := h.mem.only' O (fun j hj e => by rcases hj with hj | hj; exact (h.n2 _ e.symm).2.1 hj; exact (h.n2 _ e.symm).2.2 hj)
  exact {
    e0 := cset _ cc (by omega) (O.cell (a := ⟨D.db, 0, none⟩) ncb h.e0)
    e1 := cset _ cc (by omega) (O.cell (a := ⟨D.db, 1, none⟩) ncb h.e1)
    e66 := cset _ cc (by omega) (O.cell (a := ⟨D.db, 66, none⟩) ncb h.e66)
    e67 := cset _ cc (by omega) (O.cell (a := ⟨D.db, 67, none⟩) ncb h.e67)
    e68 := cset _ cc (by omega) (O.cell (a := ⟨D.db, 68, none⟩) ncb h.e68)
    e69 := cset_same _ cc
    e70 := cset _ cc (by omega) (O.cell (a := ⟨D.db, 70, none⟩) ncb h.e70)
    rv := fun i hi => cset _ cc (by omega) (O.cell (a := ⟨D.db, 2 + i, none⟩) ncb (h.rv i hi))
    rt := fun i hi => cset _ cc (by omega) (O.cell (a := ⟨D.db, 34 + i, none⟩) ncb (h.rt i hi))
    fz := fun k => by rw [World.frozen?_setCell]; exact (O.frozen (by exact h.lt) ncb).trans (h.fz k)
    lt := by rw [World.size_setCell]; exact Nat.lt_of_lt_of_le h.lt O.size
    rowT := own_only ho O2 (fun j hj => (hn j hj).1)
    rowR := own_only rO O2 (fun j hj => (h.n3 j hj).1)
    mem := me.only' O2 (fun j hj e => by subst e; rcases hj with hj | hj; exact h.n0.1 hj; exact h.n0.2 hj)
    n0 := h.n0
    n2 := hn
    n3 := h.n3
    n4 := fun j hj e => by
      rcases hb j hj with h1 | h1
      · exact h.n4 j h1 e
      · have := own_lt h.rowR e; omega
    ok := { h.ok with } }
theorem IsD.growR {w w5 : World} {D : Dc} {s : Ms} (h : IsD w D s) {v' : Value} {t' : List Sn} (hg : w.grownBy w5 D.vr.ownBlock) (ho : w5.ownsRow 0 82 5 v' t'.length (snL t')) (hn1 : t'.length ≤ 1048576) (hb : ∀ j, v'.ownBlock = some j → D.vr.ownBlock = some j ∨ w.heap.size ≤ j) :
    IsD (w5.setCell ⟨D.db, 70, none⟩ v') ⟨D.db, D.y, D.vt, v'⟩ { s with tr := t' } := by
  have O := only_grown hg
  have ncb : ¬ some D.db = D.vr.ownBlock := fun e => (h.n3 _ e.symm).1 rfl
  have cc := O.cell (a := ⟨D.db, 70, none⟩) ncb h.e70
  have O2 := only_one w5 D.db 70 v'
  have hn : ∀ j, v'.ownBlock = some j → j ≠ D.db ∧ ¬ D.y.hd j ∧ ¬ D.y.bl j := fun j hj => by
    rcases hb j hj with h1 | h1
    · exact h.n3 j h1
    · exact ⟨fun e => by have := h.lt; omega, fun e => by have := h.all_lt (.inr e); omega, fun e => by have := h.all_lt (.inl (.inr (.inl e))); omega⟩
  have rO : w5.ownsRow 0 54 2 D.vt s.told.length (tlL s.told) := own_only h.rowT O (fun j hj e => h.n4 j hj e.symm)
  have me : IsR w5 D.y s.bv s.tv := h.mem.only' O (fun j hj e => by rcases hj with hj | hj; exact (h.n3 _ e.symm).2.1 hj; exact (h.n3 _ e.symm).2.2 hj)
  exact {
    e0 := cset _ cc (by omega) (O.cell (a := ⟨D.db, 0, none⟩) ncb h.e0)
    e1 := cset _ cc (by omega) (O.cell (a := ⟨D.db, 1, none⟩) ncb h.e1)
    e66 := cset _ cc (by omega) (O.cell (a := ⟨D.db, 66, none⟩) ncb h.e66)
    e67 := cset _ cc (by omega) (O.cell (a := ⟨D.db, 67, none⟩) ncb h.e67)
    e68 := cset _ cc (by omega) (O.cell (a := ⟨D.db, 68, none⟩) ncb h.e68)
    e69 := cset _ cc (by omega) (O.cell (a := ⟨D.db, 69, none⟩) ncb h.e69)
    e70 := cset_same _ cc
    rv := fun i hi => cset _ cc (by omega) (O.cell (a := ⟨D.db, 2 + i, none⟩) ncb (h.rv i hi))
    rt := fun i hi => cset _ cc (by omega) (O.cell (a := ⟨D.db, 34 + i, none⟩) ncb (h.rt i hi))
    fz := fun k => by rw [World.frozen?_setCell]; exact (O.frozen (by exact h.lt) ncb).trans (h.fz k)
    lt := by rw [World.size_setCell]; exact Nat.lt_of_lt_of_le h.lt O.size
    rowT := own_only rO O2 (fun j hj => (h.n2 j hj).1)
    rowR := own_only ho O2 (fun j hj => (hn j hj).1)
    mem := me.only' O2 (fun j hj e => by subst e; rcases hj with hj | hj; exact h.n0.1 hj; exact h.n0.2 hj)
    n0 := h.n0
    n2 := h.n2
    n3 := hn
    n4 := fun j hj e => by
      rcases hb j e with h1 | h1
      · exact h.n4 j hj h1
      · have := own_lt h.rowT hj; omega
    ok := { h.ok with n := hn1 } }
theorem dnxtT {w0 w : World} {D : Dc} {v' : Value} (hs : w0.heap.size ≤ w.heap.size) (hb : ∀ j, v'.ownBlock = some j → D.vt.ownBlock = some j ∨ w.heap.size ≤ j) : Dc.nxt w0 D ⟨D.db, D.y, v', D.vr⟩ :=
  ⟨rfl, rfl, fun j hj => by
    rcases hj with e | e | e | e
    · exact .inl (.inl e)
    · exact .inl (.inr (.inl e))
    · rcases hb j e with h1 | h1
      · exact .inl (.inr (.inr (.inl h1)))
      · exact .inr (Nat.le_trans hs h1)
    · exact .inl (.inr (.inr (.inr e)))⟩
theorem dnxtR {w0 w : World} {D : Dc} {v' : Value} (hs : w0.heap.size ≤ w.heap.size) (hb : ∀ j, v'.ownBlock = some j → D.vr.ownBlock = some j ∨ w.heap.size ≤ j) : Dc.nxt w0 D ⟨D.db, D.y, D.vt, v'⟩ :=
  ⟨rfl, rfl, fun j hj => by
    rcases hj with e | e | e | e
    · exact .inl (.inl e)
    · exact .inl (.inr (.inl e))
    · exact .inl (.inr (.inr (.inl e)))
    · rcases hb j e with h1 | h1
      · exact .inl (.inr (.inr (.inr h1)))
      · exact .inr (Nat.le_trans hs h1)⟩
theorem dset_any {w : World} {D : Dc} {s : Ms} (h : IsD w D s) (i v : Nat) (t : Bool) (hi : i < 32) (hv : v < 18446744073709551616) :
    Calls Tryz.prog 24 #[.pointer (some ⟨D.db, 0, none⟩), .int .i64 i, .int .u64 v, .bool t] w fun e w' => e = .returned (.tuple #[]) ∧ IsD w' D (s.lay i v t) ∧ Only (fun j => j = D.db) w w' := by
  by_cases h0 : i = 0
  · subst h0
    have hl : s.lay 0 v t = s := rfl
    rw [hl, show ((0 : Nat) : Int) = 0 from rfl]
    go_enter Tryz.func24, Tryz.ntmps24
    go_wp2
    go_end0
    exact ⟨rfl, h, Only.refl _ _⟩
  · have c1 := h.rv i hi
    have c2 := h.rt i hi
    have z1 := h.fz (2 + i)
    have z2 := h.fz (34 + i)
    have i0 : (0 : Int) < (i : Int) := by omega
    have i1 : (i : Int) < 32 := by omega
    have hE := h.lay (t := t) hi h0 hv
    go_enter Tryz.func24, Tryz.ntmps24
    go_wp2
    go_end0
    exact ⟨rfl, hE, (only_one _ _ _ _).trans (only_one _ _ _ _)⟩
theorem dwrong_any {w : World} {D : Dc} {s : Ms} (h : IsD w D s) (k : Int) :
    Calls Tryz.prog 29 #[.pointer (some ⟨D.db, 0, none⟩), .int .i64 k] w fun e w' => e = .returned (.int .i64 k) ∧ IsD w' D (s.bad k) ∧ Only (fun j => j = D.db) w w' := by
  have c1 := h.e66
  have c2 := h.e68
  have z1 := h.fz 66
  have z2 := h.fz 68
  have hE : IsD ((w.setCell ⟨D.db, 66, none⟩ (.bool true)).setCell ⟨D.db, 68, none⟩ (.int .i64 k)) D (s.bad k) := h.setOv.setWr k
  go_enter Tryz.func29, Tryz.ntmps29
  go_wp2
  go_ret
  exact ⟨rfl, hE, (only_one _ _ _ _).trans (only_one _ _ _ _)⟩
theorem like_15 (w : World) : Calls Tryz.prog 106 #[.int .u8 15] w fun e w' => e = .returned (.int .u8 1) ∧ w = w' := by
  go_enter Tryz.func106, Tryz.ntmps106
  go_wp2
  go_ret
  exact ⟨rfl, rfl⟩
theorem like_16 (w : World) : Calls Tryz.prog 106 #[.int .u8 16] w fun e w' => e = .returned (.int .u8 5) ∧ w = w' := by
  go_enter Tryz.func106, Tryz.ntmps106
  go_wp2
  go_ret
  exact ⟨rfl, rfl⟩
theorem like_17 (w : World) : Calls Tryz.prog 106 #[.int .u8 17] w fun e w' => e = .returned (.int .u8 6) ∧ w = w' := by
  go_enter Tryz.func106, Tryz.ntmps106
  go_wp2
  go_ret
  exact ⟨rfl, rfl⟩
theorem like_18 (w : World) : Calls Tryz.prog 106 #[.int .u8 18] w fun e w' => e = .returned (.int .u8 9) ∧ w = w' := by
  go_enter Tryz.func106, Tryz.ntmps106
  go_wp2
  go_ret
  exact ⟨rfl, rfl⟩
theorem like_19 (w : World) : Calls Tryz.prog 106 #[.int .u8 19] w fun e w' => e = .returned (.int .u8 10) ∧ w = w' := by
  go_enter Tryz.func106, Tryz.ntmps106
  go_wp2
  go_ret
  exact ⟨rfl, rfl⟩
theorem like_20 (w : World) : Calls Tryz.prog 106 #[.int .u8 20] w fun e w' => e = .returned (.int .u8 3) ∧ w = w' := by
  go_enter Tryz.func106, Tryz.ntmps106
  go_wp2
  go_ret
  exact ⟨rfl, rfl⟩
theorem like_21 (w : World) : Calls Tryz.prog 106 #[.int .u8 21] w fun e w' => e = .returned (.int .u8 7) ∧ w = w' := by
  go_enter Tryz.func106, Tryz.ntmps106
  go_wp2
  go_ret
  exact ⟨rfl, rfl⟩
theorem like_22 (w : World) : Calls Tryz.prog 106 #[.int .u8 22] w fun e w' => e = .returned (.int .u8 8) ∧ w = w' := by
  go_enter Tryz.func106, Tryz.ntmps106
  go_wp2
  go_ret
  exact ⟨rfl, rfl⟩
theorem goes_any (op a b : Nat) (ho : 28 ≤ op ∧ op ≤ 31) (w : World) : Calls Tryz.prog 80 #[.int .u8 op, .int .u64 (a : Nat), .int .u64 (b : Nat)] w fun e w' => e = .returned (.bool (goesB op a b)) ∧ w = w' := by
  have hc : op = 28 ∨ op = 29 ∨ op = 30 ∨ op = 31 := by omega
  rcases hc with rfl | rfl | rfl | rfl
  · show Calls _ _ _ _ fun e w' => e = .returned (.bool (decide (a = b))) ∧ w = w'
    rw [show ((28 : Nat) : Int) = 28 from rfl]
    by_cases h : a = b
    · have h' : (a : Int) = (b : Int) := by omega
      rw [decide_eq_true h]
      subst h
      go_enter Tryz.func80, Tryz.ntmps80
      go_wp2
      go_ret
      exact ⟨by simp, rfl⟩
    · have h' : ¬ (a : Int) = (b : Int) := by omega
      rw [decide_eq_false h]
      go_enter Tryz.func80, Tryz.ntmps80
      go_wp2
      go_ret
      exact ⟨by first | (simp; done) | (simp; omega), rfl⟩
  · show Calls _ _ _ _ fun e w' => e = .returned (.bool (decide (a ≠ b))) ∧ w = w'
    rw [show ((29 : Nat) : Int) = 29 from rfl]
    by_cases h : a = b
    · rw [decide_eq_false (fun hh => hh h)]
      subst h
      go_enter Tryz.func80, Tryz.ntmps80
      go_wp2
      go_ret
      exact ⟨by simp, rfl⟩
    · rw [decide_eq_true h]
      go_enter Tryz.func80, Tryz.ntmps80
      go_wp2
      go_ret
      exact ⟨by first | (simp; done) | (simp; omega), rfl⟩
  · show Calls _ _ _ _ fun e w' => e = .returned (.bool (decide (a < b))) ∧ w = w'
    rw [show ((30 : Nat) : Int) = 30 from rfl]
    go_enter Tryz.func80, Tryz.ntmps80
    go_wp2
    go_ret
    exact ⟨by simp, rfl⟩
  · show Calls _ _ _ _ fun e w' => e = .returned (.bool (decide (b ≤ a))) ∧ w = w'
    rw [show ((31 : Nat) : Int) = 31 from rfl]
    go_enter Tryz.func80, Tryz.ntmps80
    go_wp2
    go_ret
    exact ⟨by simp, rfl⟩
theorem like_any (op : Nat) (h : 15 ≤ op ∧ op ≤ 22) (w : World) : Calls Tryz.prog 106 #[.int .u8 op] w fun e w' => e = .returned (.int .u8 (likeN op : Nat)) ∧ w = w' := by
  have hc : op = 15 ∨ op = 16 ∨ op = 17 ∨ op = 18 ∨ op = 19 ∨ op = 20 ∨ op = 21 ∨ op = 22 := by omega
  rcases hc with rfl | rfl | rfl | rfl | rfl | rfl | rfl | rfl
  · exact like_15 w
  · exact like_16 w
  · exact like_17 w
  · exact like_18 w
  · exact like_19 w
  · exact like_20 w
  · exact like_21 w
  · exact like_22 w
end Go.Proofs.YtfaacmcnefbgcaaGreatDoor.m4
