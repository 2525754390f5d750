/- Worlds in which only some blocks change; rows of tokens; expressions in memory. -/
import Derived.Test.YtfbjljcmmbdhkaaGreatDoorT09
import Derived.ChangeArms
import Derived.ChangeSame
import Derived.Deep.AppendLies
import Derived.Laws.AppendOwnNone
namespace Go.Proofs.YtfbjljcmmbdhkaaGreatDoor
set_option linter.unusedVariables false
set_option linter.unusedSimpArgs false
set_option maxRecDepth 100000
set_option maxHeartbeats 200000000
open Go.ChangeShapes Go.WideShapes Go.ChangeAt Go.RowKit
structure Only (S : Nat → Prop) (w w' : World) : Prop where
 os : w'.os = w.os
 tape : w'.tape = w.tape
 output : w'.output = w.output
 size : w.heap.size ≤ w'.heap.size
 block : ∀ j, j < w.heap.size → ¬ S j → w'.heap[j]? = w.heap[j]?
theorem Only.refl (S : Nat → Prop) (w : World) : Only S w w := ⟨rfl, rfl, rfl, Nat.le_refl _, fun _ _ _ => rfl⟩
theorem Only.trans {S : Nat → Prop} {a b c : World} (h : Only S a b) (k : Only S b c) : Only S a c :=
 ⟨k.os.trans h.os, k.tape.trans h.tape, k.output.trans h.output, Nat.le_trans h.size k.size, fun j hj hs => (k.block j (Nat.lt_of_lt_of_le hj h.size) hs).trans (h.block j hj hs)⟩
theorem only_below {S : Nat → Prop} {w w' : World} (h : Below w.heap.size w w') : Only S w w' := ⟨h.os, h.tape, h.output, h.size, fun j hj _ => h.block j hj⟩
theorem Only.mono {S T : Nat → Prop} {w w' : World} (h : Only S w w') (hs : ∀ j, S j → T j) : Only T w w' := ⟨h.os, h.tape, h.output, h.size, fun j hj ht => h.block j hj (fun hh => ht (hs j hh))⟩
theorem Only.below {S : Nat → Prop} {w w' : World} {B : Nat} (h : Only S w w') (hS : ∀ j, S j → B ≤ j) (hB : B ≤ w.heap.size) : Below B w w' :=
 ⟨h.os, h.tape, h.output, h.size, fun j hj => h.block j (by omega) (fun hh => by have := hS j hh; omega)⟩
theorem Only.cell {S : Nat → Prop} {w w' : World} (h : Only S w w') {a : Addr} {v : Value} (hs : ¬ S a.block) (hc : w.cell? a = some v) : w'.cell? a = some v := by
 have e := h.block a.block (World.block_lt_of_cell? w _ hc) hs
 rw [← hc]; unfold World.cell?; rw [e]
theorem Only.frozen {S : Nat → Prop} {w w' : World} (h : Only S w w') {a : Addr} (hl : a.block < w.heap.size) (hs : ¬ S a.block) : w'.frozen? a = w.frozen? a := by
 have e := h.block a.block hl hs
 unfold World.frozen?; rw [e]
theorem Only.setCell {S : Nat → Prop} {w w' : World} (h : Only S w w') {b o : Nat} {v : Value} (hs : S b) : Only S w (w'.setCell ⟨b, o, none⟩ v) :=
 ⟨h.os, h.tape, h.output, by simp only [World.size_setCell]; exact h.size, fun j hj hn => (Below.heap_setCell _ _ _ _ (by simp only; intro e; subst e; exact hn hs)).trans (h.block j hj hn)⟩
theorem only_grown {w w' : World} {row : Option Nat} (h : w.grownBy w' row) : Only (fun j => some j = row) w w' := ⟨h.os, h.tape, h.output, h.size, h.block⟩
theorem Only.old {S T : Nat → Prop} {a b c : World} (h : Only T a b) (k : Only S b c) (hs : ∀ j, S j → T j ∨ a.heap.size ≤ j) : Only T a c :=
 ⟨k.os.trans h.os, k.tape.trans h.tape, k.output.trans h.output, Nat.le_trans h.size k.size, fun j hj ht => (k.block j (Nat.lt_of_lt_of_le hj h.size) (fun hh => (hs j hh).elim (fun h1 => ht h1) (fun h1 => absurd hj (by omega)))).trans (h.block j hj ht)⟩
theorem cset {w : World} {b o o' : Nat} {v u : Value} (h : w.cell? ⟨b, o', none⟩ = some u) (hn : o' ≠ o) : (w.setCell ⟨b, o, none⟩ v).cell? ⟨b, o', none⟩ = some u := by
 rw [World.cell?_setCell_other (h := by intro e; injection e with _ h2 _; exact hn h2.symm)]; exact h
theorem cset_same {w : World} {b o : Nat} {v u : Value} (h : w.cell? ⟨b, o, none⟩ = some u) : (w.setCell ⟨b, o, none⟩ v).cell? ⟨b, o, none⟩ = some v := World.cell?_setCell_same (h := h) ..
theorem own_only {w w' : World} {base size n : Nat} {e : TypeId} {v : Value} {xs : List Value} {S : Nat → Prop} (h : w.ownsRow base e size v n xs) (ho : Only S w w') (hn : ∀ j, v.ownBlock = some j → ¬ S j) : w'.ownsRow base e size v n xs := by
 refine ⟨h.1, ?_⟩
 rcases h.2 with h0 | ⟨g, cap, cur, hv, hg, hh, hr⟩
 ·exact Or.inl h0
 ·refine Or.inr ⟨g, cap, cur, hv, hg, ?_, hr⟩
  rw [ho.block g (Array.getElem?_eq_some_iff.1 hh).1 (hn g (by rw [hv]; rfl))]
  exact hh
theorem own_lt {w : World} {base size n : Nat} {e : TypeId} {v : Value} {xs : List Value} {j : Nat} (h : w.ownsRow base e size v n xs) (hj : v.ownBlock = some j) : base ≤ j ∧ j < w.heap.size := by
 rcases h.2 with ⟨h0, _⟩ | ⟨g, cap, cur, hv, hg, hh, hr⟩
 ·rw [h0] at hj; cases hj
 ·rw [hv] at hj
  cases hj
  exact ⟨hg, (Array.getElem?_eq_some_iff.1 hh).1⟩
def cellsZ (l : List (Tk × Int)) : List Value := l.flatMap fun x => [.int .u8 (x.1.k : Int), .string (str x.1.t), .int .u64 (x.1.n : Int), .int .i64 x.2]
theorem cellsZ_app (a b : List (Tk × Int)) : cellsZ (a ++ b) = cellsZ a ++ cellsZ b := by simp [cellsZ]
theorem cellsZ_len (l : List (Tk × Int)) : (cellsZ l).length = l.length * 4 := by
 induction l with
 | nil => rfl
 | cons x l ih =>
  show (_ :: _ :: _ :: _ :: cellsZ l).length = _
  simp only [List.length_cons, ih]
  omega
theorem cellsZ_one (l : List (Tk × Int)) : ∀ u ∈ cellsZ l, u.oneCell' = true := by
 intro u hu
 unfold cellsZ at hu
 obtain ⟨p, _, hp⟩ := List.mem_flatMap.1 hu
 simp only [List.mem_cons, List.not_mem_nil, or_false] at hp
 rcases hp with rfl | rfl | rfl | rfl <;> rfl
theorem cellsZ_at : ∀ (l : List (Tk × Int)) (i : Nat) (h : i < l.length), (cellsZ l)[i * 4]? = some (.int .u8 (l[i].1.k : Int)) ∧ (cellsZ l)[i * 4 + 1]? = some (.string (str l[i].1.t)) ∧ (cellsZ l)[i * 4 + 2]? = some (.int .u64 (l[i].1.n : Int)) ∧ (cellsZ l)[i * 4 + 3]? = some (.int .i64 l[i].2) := by
 intro l
 induction l with
 | nil => intro i h; simp at h
 | cons x l ih =>
  intro i h
  cases i with
  | zero => simp [cellsZ]
  | succ i =>
   have e : ∀ r, (cellsZ (x :: l))[(i + 1) * 4 + r]? = (cellsZ l)[i * 4 + r]? := fun r => by
    show (_ :: _ :: _ :: _ :: cellsZ l)[(i + 1) * 4 + r]? = _
    rw [show (i + 1) * 4 + r = (i * 4 + r) + 1 + 1 + 1 + 1 by omega]
    rfl
   obtain ⟨a0, a1, a2, a3⟩ := ih i (by simpa using h)
   exact ⟨(e 0).trans a0, (e 1).trans a1, (e 2).trans a2, (e 3).trans a3⟩
structure RowZ (w : World) (v : Value) (T : List (Tk × Int)) : Prop where
 row : ∃ (ma : Option Addr) (c : Nat), v = .slice ma T.length c ∧ ∀ i (h : i < T.length), ∃ b o, ma = some ⟨b, o, none⟩ ∧ b < w.heap.size ∧ w.cell? ⟨b, o + i * 4, none⟩ = some (.int .u8 (T[i].1.k : Int)) ∧ w.cell? ⟨b, o + i * 4 + 1, none⟩ = some (.string (str T[i].1.t)) ∧ w.cell? ⟨b, o + i * 4 + 2, none⟩ = some (.int .u64 (T[i].1.n : Int)) ∧ w.cell? ⟨b, o + i * 4 + 3, none⟩ = some (.int .i64 T[i].2)
theorem RowZ.of {w w' : World} {v : Value} {T : List (Tk × Int)} (h : RowZ w v T) (hb : Below w.heap.size w w') : RowZ w' v T := by
 obtain ⟨ma, c, rfl, hc⟩ := h.row
 refine ⟨ma, c, rfl, fun i hi => ?_⟩
 obtain ⟨b, o, e, hl, a0, a1, a2, a3⟩ := hc i hi
 exact ⟨b, o, e, Nat.lt_of_lt_of_le hl hb.size, stay hb a0, stay hb a1, stay hb a2, stay hb a3⟩
theorem RowZ.only {w w' : World} {v : Value} {T : List (Tk × Int)} {S : Nat → Prop} (h : RowZ w v T) (ho : Only S w w') (hn : ∀ j, v.ownBlock = some j → ¬ S j) : RowZ w' v T := by
 obtain ⟨ma, c, rfl, hc⟩ := h.row
 refine ⟨ma, c, rfl, fun i hi => ?_⟩
 obtain ⟨b, o, e, hl, a0, a1, a2, a3⟩ := hc i hi
 have hb : ¬ S b := hn b (by rw [e]; rfl)
 exact ⟨b, o, e, Nat.lt_of_lt_of_le hl ho.size, ho.cell hb a0, ho.cell hb a1, ho.cell hb a2, ho.cell hb a3⟩
theorem own_rowZ {w : World} {B : Nat} {v : Value} {T : List (Tk × Int)} (h : w.ownsRow B 95 4 v T.length (cellsZ T)) : RowZ w v T := by
 rcases h.2 with ⟨h0, h1⟩ | ⟨g, cap, cur, hv, hg, hh, hr⟩
 ·have : T = [] := List.length_eq_zero_iff.1 h1
  subst this
  exact ⟨none, 0, h0, fun i hi => by simp at hi⟩
 ·have hl : g < w.heap.size := (Array.getElem?_eq_some_iff.1 hh).1
  obtain ⟨m, hm⟩ | hm : (∃ m, T.length = m + 1) ∨ T.length = 0 := by cases T.length; exact .inr rfl; exact .inl ⟨_, rfl⟩
  ·refine ⟨some ⟨g, 0, none⟩, cap, hv, fun i hi => ⟨g, 0, rfl, hl, ?_⟩⟩
   obtain ⟨a0, a1, a2, a3⟩ := cellsZ_at T i hi
   subst hv
   have hm' : (cellsZ T).length = T.length * 4 := cellsZ_len T
   rw [Nat.zero_add]
   exact ⟨(h.cellAt (i * 4) (by omega)).trans a0, (h.cellAt (i * 4 + 1) (by omega)).trans a1, (h.cellAt (i * 4 + 2) (by omega)).trans a2, (h.cellAt (i * 4 + 3) (by omega)).trans a3⟩
  ·exact ⟨some ⟨g, 0, none⟩, cap, hv, fun i hi => by omega⟩
inductive KidsAt (G : Nat → Prop) (w : World) : List Xp → Option Addr → Prop
 | nil {ma : Option Addr} : KidsAt G w [] ma
 | cons {k n : Nat} {s : List UInt8} {o : Nat} {l r : List Xp} {b off : Nat} {ma : Option Addr} {cap : Nat} (hg : G b) (c0 : w.cell? ⟨b, off, none⟩ = some (.int .u8 (k : Int))) (c1 : w.cell? ⟨b, off + 1, none⟩ = some (.int .u64 (n : Int)))
    (c2 : w.cell? ⟨b, off + 2, none⟩ = some (.string (str s))) (c3 : w.cell? ⟨b, off + 3, none⟩ = some (.int .u8 (o : Int))) (c4 : w.cell? ⟨b, off + 4, none⟩ = some (.slice ma l.length cap))
    (ho : o < 256) (hl : l.length ≤ 140737488355328) (hk : KidsAt G w l ma) (hr : KidsAt G w r (some ⟨b, off + 5, none⟩)) : KidsAt G w (.mk k n s o l :: r) (some ⟨b, off, none⟩)
theorem KidsAt.mv {G G' : Nat → Prop} {w w' : World} {l : List Xp} {ma : Option Addr} (h : KidsAt G w l ma) (hg : ∀ b, G b → G' b) (hc : ∀ b o v, G b → w.cell? ⟨b, o, none⟩ = some v → w'.cell? ⟨b, o, none⟩ = some v) : KidsAt G' w' l ma := by
 induction h with
 | nil => exact .nil
 | cons h1 c0 c1 c2 c3 c4 ho hl hk hr ik ir => exact .cons (hg _ h1) (hc _ _ _ h1 c0) (hc _ _ _ h1 c1) (hc _ _ _ h1 c2) (hc _ _ _ h1 c3) (hc _ _ _ h1 c4) ho hl ik ir
def xpV (k n : Nat) (s : List UInt8) (o : Nat) (ma : Option Addr) (m cap : Nat) : Value := .agg #[.int .u8 (k : Int), .int .u64 (n : Int), .string (str s), .int .u8 (o : Int), .slice ma m cap]
inductive IsE (G : Nat → Prop) (w : World) : Value → Xp → Prop
 | mk {k n : Nat} {s : List UInt8} {o : Nat} {l : List Xp} {ma : Option Addr} {cap : Nat} (ho : o < 256) (hl : l.length ≤ 140737488355328) (hk : KidsAt G w l ma) : IsE G w (.agg #[.int .u8 (k : Int), .int .u64 (n : Int), .string (str s), .int .u8 (o : Int), .slice ma l.length cap]) (.mk k n s o l)
theorem IsE.mv {G G' : Nat → Prop} {w w' : World} {v : Value} {e : Xp} (h : IsE G w v e) (hg : ∀ b, G b → G' b) (hc : ∀ b o v, G b → w.cell? ⟨b, o, none⟩ = some v → w'.cell? ⟨b, o, none⟩ = some v) : IsE G' w' v e := by
 cases h with
 | mk ho hl hk => exact .mk ho hl (hk.mv hg hc)
theorem IsE.of {G : Nat → Prop} {w w' : World} {v : Value} {e : Xp} (h : IsE G w v e) (hb : Below w.heap.size w w') : IsE G w' v e := h.mv (fun _ h => h) (fun b o v _ hc => stay hb hc)
theorem IsE.only {G S : Nat → Prop} {w w' : World} {v : Value} {e : Xp} (h : IsE G w v e) (ho : Only S w w') (hs : ∀ b, G b → ¬ S b) : IsE G w' v e := h.mv (fun _ h => h) (fun b o v hg hc => ho.cell (hs b hg) hc)
theorem IsE.below {G : Nat → Prop} {w w' : World} {v : Value} {e : Xp} {B : Nat} (h : IsE G w v e) (hb : Below B w w') (hs : ∀ b, G b → b < B) : IsE G w' v e := h.mv (fun _ h => h) (fun b o v hg hc => (hb.cell (hs b hg)).trans hc)
theorem IsE.mono {G G' : Nat → Prop} {w : World} {v : Value} {e : Xp} (h : IsE G w v e) (hg : ∀ b, G b → G' b) : IsE G' w v e := h.mv hg (fun _ _ _ _ h => h)
structure KidAt (G : Nat → Prop) (w : World) (b off : Nat) (x : Xp) : Prop where
 kid : ∃ (ma : Option Addr) (cap : Nat), G b ∧ b < w.heap.size ∧ w.cell? ⟨b, off, none⟩ = some (.int .u8 (x.k : Int)) ∧ w.cell? ⟨b, off + 1, none⟩ = some (.int .u64 (x.n : Int)) ∧ w.cell? ⟨b, off + 2, none⟩ = some (.string (str x.s)) ∧ w.cell? ⟨b, off + 3, none⟩ = some (.int .u8 (x.o : Int)) ∧ w.cell? ⟨b, off + 4, none⟩ = some (.slice ma x.l.length cap) ∧ x.o < 256 ∧ x.l.length ≤ 140737488355328 ∧ KidsAt G w x.l ma
theorem kids_at {G : Nat → Prop} {w : World} : ∀ (l : List Xp) (b off : Nat), KidsAt G w l (some ⟨b, off, none⟩) → ∀ i (h : i < l.length), KidAt G w b (off + i * 5) l[i] := by
 intro l
 induction l with
 | nil => intro b off _ i h; simp at h
 | cons x r ih =>
  intro b off hk i h
  cases hk with
  | cons hg c0 c1 c2 c3 c4 ho hl hk hr =>
   cases i with
   | zero => exact ⟨_, _, hg, World.block_lt_of_cell? w _ c0, c0, c1, c2, c3, c4, ho, hl, hk⟩
   | succ i =>
    have := ih b (off + 5) hr i (by simpa using h)
    rw [show off + (i + 1) * 5 = off + 5 + i * 5 by omega]
    exact this
theorem kids_some {G : Nat → Prop} {w : World} {l : List Xp} {ma : Option Addr} (h : KidsAt G w l ma) (hl : 0 < l.length) : ∃ b off, ma = some ⟨b, off, none⟩ := by
 cases h with
 | nil => simp at hl
 | cons => exact ⟨_, _, rfl⟩
theorem xp_eta (x : Xp) : Xp.mk x.k x.n x.s x.o x.l = x := by cases x; rfl
theorem KidAt.isE {G : Nat → Prop} {w : World} {b off : Nat} {x : Xp} (h : KidAt G w b off x) : ∃ (ma : Option Addr) (cap : Nat), w.cell? ⟨b, off, none⟩ = some (.int .u8 (x.k : Int)) ∧ w.cell? ⟨b, off + 1, none⟩ = some (.int .u64 (x.n : Int)) ∧ w.cell? ⟨b, off + 2, none⟩ = some (.string (str x.s)) ∧ w.cell? ⟨b, off + 3, none⟩ = some (.int .u8 (x.o : Int)) ∧ w.cell? ⟨b, off + 4, none⟩ = some (.slice ma x.l.length cap) ∧ IsE G w (.agg #[.int .u8 (x.k : Int), .int .u64 (x.n : Int), .string (str x.s), .int .u8 (x.o : Int), .slice ma x.l.length cap]) x := by
 obtain ⟨ma, cap, _, _, c0, c1, c2, c3, c4, ho, hl, hk⟩ := h.kid
 refine ⟨ma, cap, c0, c1, c2, c3, c4, ?_⟩
 have := IsE.mk (G := G) (w := w) (k := x.k) (n := x.n) (s := x.s) (cap := cap) ho hl hk
 rw [xp_eta] at this
 exact this
mutual
def Xp.nodes : Xp → Nat
 | .mk _ _ _ _ l => 1 + nodesL l
def nodesL : List Xp → Nat
 | [] => 0
 | x :: r => x.nodes + nodesL r
end
theorem nodes_pos (x : Xp) : 1 ≤ x.nodes := by cases x; rw [Xp.nodes]; omega
theorem nodesL_app : ∀ (a b : List Xp), nodesL (a ++ b) = nodesL a + nodesL b
 | [], b => by rw [nodesL]; simp
 | x :: a, b => by rw [List.cons_append, nodesL, nodesL, nodesL_app a b]; omega
theorem nodesL_mem {x : Xp} : ∀ {l : List Xp}, x ∈ l → x.nodes ≤ nodesL l
 | y :: l, h => by
   rw [nodesL]
   rcases List.mem_cons.1 h with rfl | h
   ·omega
   ·have := nodesL_mem h; omega
theorem nodes_l (x : Xp) : x.nodes = 1 + nodesL x.l := by cases x; rw [Xp.nodes]; rfl
theorem new_frozen (W : World) (c : Array Value) (t : TypeId) (j : Nat) : (W.alloc (.cells c t)).frozen? ⟨W.heap.size, j, none⟩ = false := by
 have e : (W.alloc (.cells c t)).heap[W.heap.size]? = some (.cells c t (0, 0)) := by show (W.heap.push _)[W.heap.size]? = _; simp
 unfold World.frozen?
 simp only [e]
 simp
def rowG (C : Array Value) (w : World) (k : Nat) : Prop := (∀ i, i < C.size → w.cell? ⟨k, i, none⟩ = C[i]?) ∧ (∀ i, w.frozen? ⟨k, i, none⟩ = false) ∧ k < w.heap.size
theorem rowG_blk {C : Array Value} {X Y : World} {k : Nat} (h : rowG C X k) (e : Y.heap[k]? = X.heap[k]?) (hs : k < Y.heap.size) : rowG C Y k :=
 ⟨fun i hi => by rw [← h.1 i hi]; unfold World.cell?; rw [e], fun i => by rw [← h.2.1 i]; unfold World.frozen?; rw [e], hs⟩
theorem rowG_below {C : Array Value} {X Y : World} {k B : Nat} (h : rowG C X k) (hb : Below B X Y) (hk : k < B) : rowG C Y k := rowG_blk h (hb.block k hk) (Nat.lt_of_lt_of_le h.2.2 hb.size)
theorem rowG_b {C : Array Value} {X Y : World} {k : Nat} (h : rowG C X k) (hb : Below X.heap.size X Y) : rowG C Y k := rowG_below h hb h.2.2
theorem rowG_only {C : Array Value} {X Y : World} {k : Nat} {S : Nat → Prop} (h : rowG C X k) (ho : Only S X Y) (hk : ¬ S k) : rowG C Y k := rowG_blk h (ho.block k h.2.2 hk) (Nat.lt_of_lt_of_le h.2.2 ho.size)
theorem rowG_at (C : Array Value) (t : TypeId) (w : World) (k : Nat) (hk : k = w.heap.size) : rowG C (w.alloc (.cells C t)) k := by subst hk; exact ⟨fun i _ => new_cell w C t i, fun i => new_frozen w C t i, by simp⟩
theorem rowG_alloc {C : Array Value} {X : World} {k : Nat} (h : rowG C X k) (o : Obj) : rowG C (X.alloc o) k := rowG_blk h (Below.heap_alloc _ _ _ h.2.2) (by have := h.2.2; simp; omega)
theorem rowG_other {C : Array Value} {w : World} {k j o : Nat} (u : Value) (h : rowG C w k) (hn : k ≠ j) : rowG C (w.setCell ⟨j, o, none⟩ u) k := rowG_blk h (Below.heap_setCell _ _ _ _ hn) (by simp only [World.size_setCell]; exact h.2.2)
theorem res_tok {fn : Func} {p : Tmp} (h : fn.results = #[.cell p 95]) (tmps : Array Value) (w : World) (g : Nat) (c0 c1 c2 c3 : Value) (hp : tmps.getD p undef = .pointer (some ⟨g, 0, none⟩)) (hr : rowG #[c0, c1, c2, c3] w g) :
 (results fn tmps).run Tryz.prog w = .ok (.agg #[c0, c1, c2, c3]) w := by
 have hp' : tmps[p]?.getD undef = .pointer (some ⟨g, 0, none⟩) := by simpa using hp
 have h0 : w.cell? ⟨g, 0, none⟩ = some c0 := hr.1 0 (by simp)
 have h1 : w.cell? ⟨g, 1, none⟩ = some c1 := hr.1 1 (by simp)
 have h2 : w.cell? ⟨g, 2, none⟩ = some c2 := hr.1 2 (by simp)
 have h3 : w.cell? ⟨g, 3, none⟩ = some c3 := hr.1 3 (by simp)
 simp [results, h, hp', go_sem, h0, h1, h2, h3]
theorem res_xp {fn : Func} {p : Tmp} (h : fn.results = #[.cell p 47]) (tmps : Array Value) (w : World) (g : Nat) (c0 c1 c2 c3 c4 : Value) (hp : tmps.getD p undef = .pointer (some ⟨g, 0, none⟩)) (hr : rowG #[c0, c1, c2, c3, c4] w g) :
 (results fn tmps).run Tryz.prog w = .ok (.agg #[c0, c1, c2, c3, c4]) w := by
 have hp' : tmps[p]?.getD undef = .pointer (some ⟨g, 0, none⟩) := by simpa using hp
 have h0 : w.cell? ⟨g, 0, none⟩ = some c0 := hr.1 0 (by simp)
 have h1 : w.cell? ⟨g, 1, none⟩ = some c1 := hr.1 1 (by simp)
 have h2 : w.cell? ⟨g, 2, none⟩ = some c2 := hr.1 2 (by simp)
 have h3 : w.cell? ⟨g, 3, none⟩ = some c3 := hr.1 3 (by simp)
 have h4 : w.cell? ⟨g, 4, none⟩ = some c4 := hr.1 4 (by simp)
 simp [results, h, hp', go_sem, h0, h1, h2, h3, h4]
theorem od1 {S : Nat → Prop} {W : World} : Only S W W.drew := ⟨rfl, rfl, rfl, Nat.le_refl _, fun _ _ _ => rfl⟩
theorem row_form {w : World} {B n : Nat} {e : TypeId} {size : Nat} {v : Value} {xs : List Value} (h : w.ownsRow B e size v n xs) : ∃ (a : Option Addr) (c : Nat), v = .slice a n c := by
 rcases h.2 with ⟨h0, h1⟩ | ⟨g, cap, cur, hv, hg, hh, hr⟩
 ·exact ⟨none, 0, by rw [h0, h1]⟩
 ·exact ⟨_, _, hv⟩
theorem number_any (n : Nat) (w : World) : Calls Tryz.prog 184 #[.int .u64 (n : Int)] w fun e w' => e = .returned (.agg #[.int .u8 3, .string ⟨#[]⟩, .int .u64 (n : Int), .int .i64 0]) ∧ Below w.heap.size w w' := by
 go_enter Tryz.func184, Tryz.ntmps184
 go_wp2
 exact bodyPost_ret (res_tok rfl _ _ w.heap.size _ _ _ _ rfl (rowG_at _ _ _ _ rfl)) rfl ⟨rfl, (Below.refl _ _).alloc (Nat.le_refl _) _⟩
theorem name_any (s : ByteArray) (w : World) : Calls Tryz.prog 185 #[.string s] w fun e w' => e = .returned (.agg #[.int .u8 1, .string s, .int .u64 0, .int .i64 0]) ∧ Below w.heap.size w w' := by
 go_enter Tryz.func185, Tryz.ntmps185
 go_wp2
 exact bodyPost_ret (res_tok rfl _ _ w.heap.size _ _ _ _ rfl (rowG_at _ _ _ _ rfl)) rfl ⟨rfl, (Below.refl _ _).alloc (Nat.le_refl _) _⟩
theorem sign_any (s : ByteArray) (w : World) : Calls Tryz.prog 186 #[.string s] w fun e w' => e = .returned (.agg #[.int .u8 4, .string s, .int .u64 0, .int .i64 0]) ∧ Below w.heap.size w w' := by
 go_enter Tryz.func186, Tryz.ntmps186
 go_wp2
 exact bodyPost_ret (res_tok rfl _ _ w.heap.size _ _ _ _ rfl (rowG_at _ _ _ _ rfl)) rfl ⟨rfl, (Below.refl _ _).alloc (Nat.le_refl _) _⟩
theorem opS_big {o : Nat} (h : 15 ≤ o) : opS o = [] := by unfold opS; rw [List.getD_eq_getElem?_getD, List.getElem?_eq_none (by simpa [opsL] using h)]; rfl
theorem signOf_any (o : Nat) (ho : o < 256) (w : World) (hT : Tb w) : Calls Tryz.prog 187 #[.int .u8 (o : Int)] w fun e w' => e = .returned (.string (str (opS o))) ∧ w = w' := by
 have hw : IntKind.i64.wrap (o : Int) = (o : Int) := by rw [IntKind.wrap_i64]; omega
 go_enter Tryz.func187, Tryz.ntmps187
 by_cases h : o < 15
 ·have c0 := hT.esg o h
  have hb := World.block_lt_of_cell? w _ c0
  go_wp2
  go_ret
  exact ⟨rfl, rfl⟩
 ·have e : opS o = [] := opS_big (by omega)
  rw [e]
  go_wp2
  go_ret
  exact ⟨rfl, rfl⟩
theorem hz1 {w w1 : World} {o : Obj} (hb : Below (w.alloc o).heap.size (w.alloc o) w1) : w.heap.size < w1.heap.size := by have := hb.size; simp at this; omega
theorem strE (s : List UInt8) : (str s).toList.isEmpty = decide (s = []) := by rw [ByteArray.toList_eq, str_list]; cases s <;> simp
theorem nmd_str (s : List UInt8) (w : World) (hT : Tb w) : Calls Tryz.prog 56 #[.string (str s)] w fun e w' => e = .returned (.bool (nmdB s)) ∧ Below w.heap.size w w' := by
 have := nmd_any (str s) w hT
 rw [str_list] at this
 exact this
theorem ne_beq {a b : Nat} (h : a ≠ b) : ((a : Int) == (b : Int)) = false := by simp only [beq_eq_false_iff_ne]; omega
theorem dec_beq (a : Nat) (b : Int) (c : Nat) (h : b = c) : ((a : Int) == b) = decide (a = c) := by
 subst h
 by_cases h : a = c
 ·subst h; simp
 ·rw [ne_beq h, decide_eq_false h]
theorem fits_any (k n : Nat) (s : List UInt8) (o : Nat) (ma : Option Addr) (m cap : Nat) (ho : o < 256) (w : World) (hT : Tb w) :
 Calls Tryz.prog 171 #[.agg #[.int .u8 (k : Int), .int .u64 (n : Int), .string (str s), .int .u8 (o : Int), .slice ma m cap]] w fun e w' => e = .returned (.bool (fitB k n s o m)) ∧ Below w.heap.size w w' := by
 have hn0 := dec_beq n 0 0 rfl
 have ho0 := dec_beq o 0 0 rfl
 have hm0 := dec_beq m 0 0 rfl
 have hm1 := dec_beq m 1 1 rfl
 have hm2 := dec_beq m 2 2 rfl
 have hsE := strE s
 have hN := nmd_str s
 have hS := signOf_any o ho
 go_enter Tryz.func171, Tryz.ntmps171
 by_cases h1 : k = 1
 ·subst h1
  cases q1 : decide (s = []) <;> cases q2 : decide (o = 0) <;> cases q3 : decide (m = 0)
  all_goals rw [q1] at hsE
  all_goals rw [q2] at ho0
  all_goals rw [q3] at hm0
  all_goals rw [show fitB 1 n s o m = (decide (s = []) && decide (o = 0) && decide (m = 0)) from rfl, q1, q2, q3]
  all_goals clear hn0 hm1 hm2 hN hS
  all_goals go_wp2_with (first | (go_at_call 56; ((with_reducible refine (hN _ (hT.alloc _)).mono ?_); (rintro e w1 ⟨rfl, hb⟩); obtain ⟨hc, hf⟩ := bcell hb; have hz := hz1 hb)) | (go_at_call 187; ((with_reducible refine (hS _ (hT.alloc _)).mono ?_); rintro e w1 ⟨rfl, rfl⟩)))
  all_goals go_ret
  all_goals first | exact ⟨rfl, aB (Below.refl _ _) _⟩ | exact ⟨rfl, tr (aB (Below.refl _ _) _) hb⟩
 by_cases h2 : k = 2
 ·subst h2
  cases q1 : decide (n = 0) <;> cases q4 : nmdB s <;> cases q2 : decide (o = 0) <;> cases q3 : decide (m = 0)
  all_goals rw [q1] at hn0
  all_goals rw [q2] at ho0
  all_goals rw [q3] at hm0
  all_goals rw [show fitB 2 n s o m = (decide (n = 0) && nmdB s && decide (o = 0) && decide (m = 0)) from rfl, q1, q4, q2, q3]
  all_goals rw [q4] at hN
  all_goals clear hm1 hm2 hS h1
  all_goals go_wp2_with (first | (go_at_call 56; ((with_reducible refine (hN _ (hT.alloc _)).mono ?_); (rintro e w1 ⟨rfl, hb⟩); obtain ⟨hc, hf⟩ := bcell hb; have hz := hz1 hb)) | (go_at_call 187; ((with_reducible refine (hS _ (hT.alloc _)).mono ?_); rintro e w1 ⟨rfl, rfl⟩)))
  all_goals go_ret
  all_goals first | exact ⟨rfl, aB (Below.refl _ _) _⟩ | exact ⟨rfl, tr (aB (Below.refl _ _) _) hb⟩
 by_cases h4 : k = 4
 ·subst h4
  cases q1 : decide (n = 0) <;> cases q4 : nmdB s <;> cases q2 : decide (o = 0) <;> cases q3 : decide (m = 0)
  all_goals rw [q1] at hn0
  all_goals rw [q2] at ho0
  all_goals rw [q3] at hm0
  all_goals rw [show fitB 4 n s o m = (decide (n = 0) && nmdB s && decide (o = 0) && decide (m = 0)) from rfl, q1, q4, q2, q3]
  all_goals rw [q4] at hN
  all_goals clear hm1 hm2 hS h1 h2
  all_goals go_wp2_with (first | (go_at_call 56; ((with_reducible refine (hN _ (hT.alloc _)).mono ?_); (rintro e w1 ⟨rfl, hb⟩); obtain ⟨hc, hf⟩ := bcell hb; have hz := hz1 hb)) | (go_at_call 187; ((with_reducible refine (hS _ (hT.alloc _)).mono ?_); rintro e w1 ⟨rfl, rfl⟩)))
  all_goals go_ret
  all_goals first | exact ⟨rfl, aB (Below.refl _ _) _⟩ | exact ⟨rfl, tr (aB (Below.refl _ _) _) hb⟩
 by_cases h5 : k = 5
 ·subst h5
  cases q1 : decide (n = 0) <;> cases q4 : nmdB s <;> cases q2 : decide (o = 0) <;> cases q3 : decide (m = 1)
  all_goals rw [q1] at hn0
  all_goals rw [q2] at ho0
  all_goals rw [q3] at hm1
  all_goals rw [show fitB 5 n s o m = (decide (n = 0) && nmdB s && decide (o = 0) && decide (m = 1)) from rfl, q1, q4, q2, q3]
  all_goals rw [q4] at hN
  all_goals clear hm0 hm2 hS h1 h2 h4
  all_goals go_wp2_with (first | (go_at_call 56; ((with_reducible refine (hN _ (hT.alloc _)).mono ?_); (rintro e w1 ⟨rfl, hb⟩); obtain ⟨hc, hf⟩ := bcell hb; have hz := hz1 hb)) | (go_at_call 187; ((with_reducible refine (hS _ (hT.alloc _)).mono ?_); rintro e w1 ⟨rfl, rfl⟩)))
  all_goals go_ret
  all_goals first | exact ⟨rfl, aB (Below.refl _ _) _⟩ | exact ⟨rfl, tr (aB (Below.refl _ _) _) hb⟩
 have hoE := strE (opS o)
 by_cases h3 : k = 3
 ·subst h3
  have hd : decide (opS o ≠ []) = !decide (opS o = []) := by simp
  cases q1 : decide (n = 0) <;> cases q2 : decide (s = []) <;> cases q4 : decide (opS o = []) <;> cases q3 : decide (m = 2)
  all_goals rw [q1] at hn0
  all_goals rw [q2] at hsE
  all_goals rw [q4] at hoE
  all_goals rw [q3] at hm2
  all_goals rw [show fitB 3 n s o m = (decide (n = 0) && decide (s = []) && decide (opS o ≠ []) && decide (m = 2)) from rfl, hd, q1, q2, q4, q3]
  all_goals clear hm0 hm1 hN h1 h2 h4 h5 hd ho0
  all_goals go_wp2_with (first | (go_at_call 56; ((with_reducible refine (hN _ (hT.alloc _)).mono ?_); (rintro e w1 ⟨rfl, hb⟩); obtain ⟨hc, hf⟩ := bcell hb; have hz := hz1 hb)) | (go_at_call 187; ((with_reducible refine (hS _ (hT.alloc _)).mono ?_); rintro e w1 ⟨rfl, rfl⟩)))
  all_goals go_ret
  all_goals exact ⟨rfl, aB (Below.refl _ _) _⟩
 ·have g1 := ne_beq h1
  have g2 := ne_beq h2
  have g3 := ne_beq h3
  have g4 := ne_beq h4
  have g5 := ne_beq h5
  have hF : fitB k n s o m = false := by unfold fitB; rw [if_neg h1, if_neg (by omega), if_neg h5, if_neg h3]
  rw [hF]
  clear hF h1 h2 h3 h4 h5 hn0 ho0 hm0 hm1 hm2 hsE hoE hN hS
  simp only [Int.ofNat_one] at g1
  go_wp2
  go_ret
  exact ⟨rfl, aB (Below.refl _ _) _⟩
mutual
def Xp.sb (B : Nat) : Xp → Prop
 | .mk _ _ s _ l => s.length ≤ B ∧ sbL B l
def sbL (B : Nat) : List Xp → Prop
 | [] => True
 | x :: r => x.sb B ∧ sbL B r
end
theorem sb_s {B : Nat} {x : Xp} (h : x.sb B) : x.s.length ≤ B := by cases x; rw [Xp.sb] at h; exact h.1
theorem sb_l {B : Nat} {x : Xp} (h : x.sb B) : sbL B x.l := by cases x; rw [Xp.sb] at h; exact h.2
theorem sb_mk {B : Nat} {x : Xp} (h1 : x.s.length ≤ B) (h2 : sbL B x.l) : x.sb B := by cases x; rw [Xp.sb]; exact ⟨h1, h2⟩
theorem sbL_iff {B : Nat} : ∀ {l : List Xp}, sbL B l ↔ ∀ x ∈ l, x.sb B
 | [] => by rw [sbL]; simp
 | x :: r => by rw [sbL, sbL_iff (l := r)]; simp
def KidC (w : World) (b off : Nat) (x : Xp) : Prop := ∃ (ma : Option Addr) (cap : Nat), w.cell? ⟨b, off, none⟩ = some (.int .u8 (x.k : Int)) ∧ w.cell? ⟨b, off + 1, none⟩ = some (.int .u64 (x.n : Int)) ∧ w.cell? ⟨b, off + 2, none⟩ = some (.string (str x.s)) ∧ w.cell? ⟨b, off + 3, none⟩ = some (.int .u8 (x.o : Int)) ∧ w.cell? ⟨b, off + 4, none⟩ = some (.slice ma x.l.length cap) ∧ x.o < 256 ∧ x.l.length ≤ 140737488355328 ∧ KidsAt (fun b => b < w.heap.size) w x.l ma
theorem kids_mk {w : World} {b : Nat} : ∀ (l : List Xp) (off : Nat), (∀ i (h : i < l.length), KidC w b (off + i * 5) l[i]) → ∀ ma, (0 < l.length → ma = some ⟨b, off, none⟩) → KidsAt (fun b => b < w.heap.size) w l ma
 | [], _, _, ma, _ => .nil
 | x :: r, off, h, ma, hma => by
   obtain ⟨ma', cap, c0, c1, c2, c3, c4, ho, hl, hk⟩ := h 0 (by simp)
   rw [hma (by simp)]
   simp only [Nat.zero_mul, Nat.add_zero, List.getElem_cons_zero] at c0 c1 c2 c3 c4 ho hl hk
   obtain ⟨k, n, s, o, l⟩ := x
   refine .cons (World.block_lt_of_cell? w _ c0) c0 c1 c2 c3 c4 ho hl hk (kids_mk r (off + 5) (fun i hi => ?_) _ (fun _ => rfl))
   have := h (i + 1) (by simp; omega)
   rw [show off + (i + 1) * 5 = off + 5 + i * 5 by omega] at this
   simpa using this
theorem wAll_mem {H : Type} {P : Program} {e : TypeId} {d : DataW H} : ∀ {l : List (DataW H)}, d ∈ l → ∀ n ∈ d.weights P e, n ∈ DataW.weightsAll P e l
 | x :: r, h, n, hn => by
   rw [DataW.weightsAll]
   rcases List.mem_cons.1 h with rfl | h
   ·exact List.mem_append_left _ hn
   ·exact List.mem_append_right _ (wAll_mem h n hn)
theorem infoE : (Tryz.prog.info? 47).map (fun i => (i.zero, i.size, i.bytes)) = some (some (.agg #[.int .u8 0, .int .u64 0, .string ⟨#[]⟩, .int .u8 0, .slice none 0 0]), 5, 64) := by kernel_rfl
theorem bytesX : Tryz.prog.bytesOf 47 = 64 := by kernel_rfl
structure Kx where
 k : Nat
 n : Nat
 s : List UInt8
 o : Nat
 ma : Option Addr
 m : Nat
 cap : Nat
 x : Xp
def Kx.cells (K : Kx) : List Value := [.int .u8 (K.k : Int), .int .u64 (K.n : Int), .string (str K.s), .int .u8 (K.o : Int), .slice K.ma K.m K.cap]
def Kx.is (G : Nat → Prop) (w : World) (K : Kx) : Prop := IsE G w (.agg #[.int .u8 (K.k : Int), .int .u64 (K.n : Int), .string (str K.s), .int .u8 (K.o : Int), .slice K.ma K.m K.cap]) K.x
def kxs (L : List Kx) : List Value := L.flatMap Kx.cells
theorem kxs_len (L : List Kx) : (kxs L).length = L.length * 5 := by
 induction L with
 | nil => rfl
 | cons K L ih =>
  show (_ :: _ :: _ :: _ :: _ :: kxs L).length = _
  simp only [List.length_cons, ih]
  omega
theorem kxs_app (a b : List Kx) : kxs (a ++ b) = kxs a ++ kxs b := by simp [kxs]
theorem kxs_one (L : List Kx) : ∀ u ∈ kxs L, u.oneCell' = true := by
 intro u hu
 unfold kxs at hu
 obtain ⟨K, _, hp⟩ := List.mem_flatMap.1 hu
 unfold Kx.cells at hp
 simp only [List.mem_cons, List.not_mem_nil, or_false] at hp
 rcases hp with rfl | rfl | rfl | rfl | rfl <;> rfl
theorem kxs_at : ∀ (L : List Kx) (i : Nat) (h : i < L.length) (r : Nat) (hr : r < 5), (kxs L)[i * 5 + r]? = L[i].cells[r]? := by
 intro L
 induction L with
 | nil => intro i h; simp at h
 | cons K L ih =>
  intro i h r hr
  cases i with
  | zero =>
   have hc : r = 0 ∨ r = 1 ∨ r = 2 ∨ r = 3 ∨ r = 4 := by omega
   rcases hc with rfl | rfl | rfl | rfl | rfl <;> rfl
  | succ i =>
   have := ih i (by simpa using h) r hr
   rw [show (i + 1) * 5 + r = (i * 5 + r) + 1 + 1 + 1 + 1 + 1 by omega]
   exact this
theorem kids_row {G : Nat → Prop} {w : World} {b : Nat} : ∀ (l : List Xp) (off : Nat), KidsAt G w l (some ⟨b, off, none⟩) → ∃ R : List Kx, R.map (·.x) = l ∧ (∀ j u, (kxs R)[j]? = some u → w.cell? ⟨b, off + j, none⟩ = some u) ∧ ∀ K ∈ R, K.is G w := by
 intro l
 induction l with
 | nil => intro off _; exact ⟨[], rfl, fun j u h => by simp [kxs] at h, fun K h => by simp at h⟩
 | cons x r ih =>
  intro off hk
  cases hk with
  | @cons k n s o l _ _ _ ma cap hg c0 c1 c2 c3 c4 ho hl hk hr =>
   obtain ⟨R, hR, hc, hi⟩ := ih (off + 5) hr
   refine ⟨⟨k, n, s, o, ma, l.length, cap, .mk k n s o l⟩ :: R, by simp [hR], fun j u hu => ?_, fun K hK => ?_⟩
   ·match j, hu with
    | 0, hu => cases hu; exact c0
    | 1, hu => cases hu; exact c1
    | 2, hu => cases hu; exact c2
    | 3, hu => cases hu; exact c3
    | 4, hu => cases hu; exact c4
    | j + 5, hu =>
     have := hc j u hu
     rw [show off + (j + 5) = off + 5 + j by omega]
     exact this
   ·rcases List.mem_cons.1 hK with rfl | hK
    ·exact IsE.mk ho hl hk
    ·exact hi K hK
theorem kx_of {G : Nat → Prop} {w : World} {K : Kx} (h : K.is G w) : K.m = K.x.l.length ∧ K.m ≤ 140737488355328 ∧ KidsAt G w K.x.l K.ma ∧ K.s = K.x.s := by
 obtain ⟨k, n, s, o, ma, m, cap, x⟩ := K
 unfold Kx.is at h
 generalize hv : (Value.agg #[.int .u8 (k : Int), .int .u64 (n : Int), .string (str s), .int .u8 (o : Int), .slice ma m cap]) = v at h
 cases h with
 | @mk k' n' s' o' l' ma' cap' ho hl hk =>
  simp only [Value.agg.injEq, Array.mk.injEq, List.cons.injEq, Value.int.injEq, Value.string.injEq, Value.slice.injEq, and_true, true_and] at hv
  obtain ⟨_, _, hs, _, rfl, rfl, rfl⟩ := hv
  refine ⟨rfl, hl, hk, ?_⟩
  have := congrArg (fun b : ByteArray => b.data.toList) hs
  simp only [str_list] at this
  exact this
theorem kx_mv {G : Nat → Prop} {w w' : World} {K : Kx} {B : Nat} (h : K.is G w) (hb : Below B w w') (hs : ∀ b, G b → b < B) : K.is G w' := IsE.below h hb hs
theorem kx_all {G : Nat → Prop} {w : World} {K : Kx} (h : K.is G w) : K.x = .mk K.k K.n K.s K.o K.x.l ∧ K.o < 256 ∧ K.m = K.x.l.length ∧ K.m ≤ 140737488355328 ∧ KidsAt G w K.x.l K.ma := by
 obtain ⟨k, n, s, o, ma, m, cap, x⟩ := K
 unfold Kx.is at h
 generalize hv : (Value.agg #[.int .u8 (k : Int), .int .u64 (n : Int), .string (str s), .int .u8 (o : Int), .slice ma m cap]) = v at h
 cases h with
 | @mk k' n' s' o' l' ma' cap' ho hl hk =>
  simp only [Value.agg.injEq, Array.mk.injEq, List.cons.injEq, Value.int.injEq, Value.string.injEq, Value.slice.injEq, and_true, true_and] at hv
  obtain ⟨h1, h2, hs, h3, rfl, rfl, rfl⟩ := hv
  have hs' := congrArg (fun b : ByteArray => b.data.toList) hs
  simp only [str_list] at hs'
  obtain rfl : k = k' := by omega
  obtain rfl : n = n' := by omega
  obtain rfl : o = o' := by omega
  subst hs'
  exact ⟨rfl, ho, rfl, hl, hk⟩
theorem kids_of_row {G : Nat → Prop} {w : World} {b : Nat} (hG : G b) : ∀ (L : List Kx) (off : Nat), (∀ j u, (kxs L)[j]? = some u → w.cell? ⟨b, off + j, none⟩ = some u) → (∀ K ∈ L, K.is G w) → KidsAt G w (L.map (·.x)) (some ⟨b, off, none⟩)
 | [], _, _, _ => .nil
 | K :: r, off, h, hK => by
   obtain ⟨hx, ho, hm, hl, hk⟩ := kx_all (hK K (List.mem_cons_self ..))
   have h0 := h 0 _ rfl
   have h1 := h 1 _ rfl
   have h2 := h 2 _ rfl
   have h3 := h 3 _ rfl
   have h4 := h 4 _ rfl
   rw [List.map_cons, hx]
   rw [hm] at h4 hl
   refine .cons hG h0 h1 h2 h3 h4 ho hl hk (kids_of_row hG r (off + 5) (fun j u hu => ?_) (fun K' h' => hK K' (List.mem_cons_of_mem _ h')))
   have := h (5 + j) u (by rw [show 5 + j = j + 1 + 1 + 1 + 1 + 1 by omega]; exact hu)
   rw [show off + 5 + j = off + (5 + j) by omega]
   exact this
theorem all_take {p : Xp → Bool} {l : List Xp} {k : Nat} (hk : k < l.length) (h : (l.take k).all p = true) (hp : p l[k] = true) : (l.take (k + 1)).all p = true := by
 rw [List.take_succ_eq_append_getElem hk, List.all_append, h]
 simp [hp]
theorem all_no {p : Xp → Bool} {l : List Xp} {k : Nat} (hk : k < l.length) (hp : p l[k] = false) : l.all p = false := by
 rw [Bool.eq_false_iff]
 intro h
 have := List.all_eq_true.1 h l[k] (List.getElem_mem hk)
 rw [hp] at this; cases this
theorem may_any : ∀ (d : Nat) (G : Nat → Prop) (e : Xp) (v : Value) (w : World), d ≤ 1000 → IsE G w v e → Tb w →
 Calls Tryz.prog 156 #[v, .int .i64 (d : Int)] w fun r w' => r = .returned (.bool (mayB d e)) ∧ Below w.heap.size w w' := by
 intro d
 induction d with
 | zero =>
  intro G e v w _ hE hT
  cases hE with
  | mk ho hl hk =>
   rw [show ∀ x, mayB 0 x = false from fun _ => rfl]
   go_enter Tryz.func156, Tryz.ntmps156
   go_wp2
   go_ret
   exact ⟨rfl, aB (Below.refl _ _) _⟩
 | succ d ih =>
  intro G e v w hd hE hT
  cases hE with
  | @mk k n s o l ma cap ho hl hk =>
   have hF := fits_any k n s o ma l.length cap ho
   cases hf : fitB k n s o l.length with
   | false =>
    rw [show mayB (d + 1) (.mk k n s o l) = (fitB k n s o l.length && l.all (mayB d)) from rfl, hf, Bool.false_and]
    rw [hf] at hF
    clear ih
    go_enter Tryz.func156, Tryz.ntmps156
    go_wp2_with (go_at_call 171; ((with_reducible refine (hF _ (hT.alloc _)).mono ?_); (rintro e w1 ⟨rfl, hb⟩)))
    go_ret
    exact ⟨rfl, tr (aB (Below.refl _ _) _) hb⟩
   | true =>
    rw [show mayB (d + 1) (.mk k n s o l) = (fitB k n s o l.length && l.all (mayB d)) from rfl, hf, Bool.true_and]
    rw [hf] at hF
    have HIH := Lib.hid ih
    have hw : IntKind.i64.wrap (((d + 1 : Nat) : Int) - 1) = (d : Int) := by rw [IntKind.wrap_i64]; omega
    have hd0 : (((d + 1 : Nat) : Int) == 0) = false := by simp only [beq_eq_false_iff_ne]; omega
    obtain ⟨D, hD⟩ : ∃ D : Int, D = ((d + 1 : Nat) : Int) := ⟨_, rfl⟩
    rw [← hD] at hw hd0 ⊢
    have HK := Lib.hid hk
    obtain ⟨N, hN⟩ : ∃ N, N = l.length := ⟨_, rfl⟩
    rw [← hN] at hF hl ⊢
    have HN := Lib.hid hN
    clear ih hD hk hf hN
    go_enter Tryz.func156, Tryz.ntmps156
    go_wp2_with (go_at_call 171; ((with_reducible refine (hF _ (hT.alloc _)).mono ?_); (rintro e w1 ⟨rfl, hb⟩); obtain ⟨hc, hf⟩ := bcell hb; have hz := hz1 hb))
    clear hF
    have hB1 : Below w.heap.size w w1 := tr (aB (Below.refl _ _) _) hb
    clear hb hc hf
    go_loopw [17] (fun i wr => ∃ k : Nat, k ≤ N ∧ i = .int .i64 (k : Int) ∧ Hid ((l.take k).all (mayB d) = true) ∧ Below w.heap.size w wr) (fun i _ => N - (intOf i).toNat)
    case atStart => exact ⟨0, Nat.zero_le _, rfl, Lib.hid (by simp), hB1⟩
    case round =>
     obtain ⟨j, hj, rfl, hall, hB⟩ := hrel
     by_cases hlt : j < N
     ·have hlt' : j < l.length := by rw [← HN.out]; exact hlt
      obtain ⟨b, off, rfl⟩ := kids_some HK.out (by omega)
      obtain ⟨ma', cap', c0, c1, c2, c3, c4, hE'⟩ := (kids_at l b off HK.out j hlt').isE
      have hbl := World.block_lt_of_cell? w _ c0
      have q0 := stay hB c0
      have q1 := stay hB c1
      have q2 := stay hB c2
      have q3 := stay hB c3
      have q4 := stay hB c4
      have hbl' : b < wr.heap.size := Nat.lt_of_lt_of_le hbl hB.size
      have hI := HIH.out G l[j] _ (wr.alloc (.cells #[.int .u8 (l[j].k : Int), .int .u64 (l[j].n : Int), .string (str l[j].s), .int .u8 (l[j].o : Int), .slice ma' l[j].l.length cap'] 47)) (by omega) ((hE'.of hB).of (aB (Below.refl _ _) _)) ((hT.of hB).alloc _)
      clear hE' c0 c1 c2 c3 c4
      cases hp : mayB d l[j] with
      | false =>
       rw [hp] at hI
       have hA := Lib.hid (all_no hlt' hp)
       clear hp
       go_wp2_with (go_at_call 156; ((with_reducible refine hI.mono ?_); (rintro e w2 ⟨rfl, hb2⟩)))
       go_ret
       exact ⟨by rw [hA.out]; rfl, tr (aB hB _) hb2⟩
      | true =>
       rw [hp] at hI
       have hA := Lib.hid (all_take hlt' hall.out hp)
       clear hp
       go_wp2_with (go_at_call 156; ((with_reducible refine hI.mono ?_); (rintro e w2 ⟨rfl, hb2⟩)))
       go_roundw
       case rel => exact ⟨j + 1, by omega, by go_num, hA, tr (aB hB _) hb2⟩
       case measure => simp [intOf]; omega
     ·obtain rfl : j = N := by omega
      have hA := Lib.hid hall.out
      go_wp2
      go_ret
      exact ⟨by rw [← hA.out, List.take_of_length_le (by rw [HN.out]; exact Nat.le_refl _)]; rfl, hB⟩
theorem check_any (G : Nat → Prop) (e : Xp) (v : Value) (w : World) (hE : IsE G w v e) (hT : Tb w) :
 Calls Tryz.prog 129 #[v] w fun r w' => r = .returned (.int .i64 (if mayB 40 e = true then 0 else 2)) ∧ Below w.heap.size w w' := by
 have hM : ∀ o, Calls Tryz.prog 156 #[v, .int .i64 40] (w.alloc o) fun r w' => r = .returned (.bool (mayB 40 e)) ∧ Below (w.alloc o).heap.size (w.alloc o) w' := fun o => may_any 40 G e v (w.alloc o) (by omega) (hE.of (aB (Below.refl _ _) _)) (hT.alloc _)
 cases hE with
 | @mk k n s o l ma cap ho hl hk =>
  generalize mayB 40 (.mk k n s o l) = c at hM
  clear hk
  cases c
  ·go_enter Tryz.func129, Tryz.ntmps129
   go_wp2_with (go_at_call 156; ((with_reducible refine (hM _).mono ?_); (rintro e w1 ⟨rfl, hb⟩)))
   go_ret
   exact ⟨rfl, tr (aB (Below.refl _ _) _) hb⟩
  ·go_enter Tryz.func129, Tryz.ntmps129
   go_wp2_with (go_at_call 156; ((with_reducible refine (hM _).mono ?_); (rintro e w1 ⟨rfl, hb⟩)))
   go_ret
   exact ⟨rfl, tr (aB (Below.refl _ _) _) hb⟩
theorem run_append_zero {P : Program} {w : World} (base : Nat) (t ty e : TypeId) (i : TypeInfo) (size : Nat) (ht : P.underlying t = some (.slice e)) (hi : P.info? e = some i)
 (v : Value) (n : Nat) (xs : List Value) (hown : w.ownsRow base e size v n xs) (ma : Option Addr) (c : Nat) :
 (Builtin.append_ #[t, t] ty #[v, .slice ma 0 c]).run P w = .ok v w := by
 rcases hown.2 with ⟨rfl, rfl⟩ | ⟨g, cap, cur, rfl, _, _, hnc, _⟩ <;> cases ma <;>
  simp [Builtin.append_, run_underlying ht, sizeOf, typeInfo, Builtin.lenOf, Builtin.firstCells, storeCells, loadCells, loadCellsFrom, *]
theorem wpList_append_zero {P : Program} {w : World} {ops : Array Oper} {rest : List Oper} {o : Oper} {a : Act} {Q : Exit → Act → World → Prop} (hgd : o.guard = none) (s x : Operand) (t : TypeId)
 (ho : o.op = .call { callee := .builtin .append, args := #[s, x], argTypes := #[t, t] })
 (base : Nat) (e : TypeId) (i : TypeInfo) (size : Nat) (ht : P.underlying t = some (.slice e)) (hi : P.info? e = some i)
 (v : Value) (n : Nat) (xs : List Value) (hs : a.eval s = v) (hown : w.ownsRow base e size v n xs) (ma : Option Addr) (c : Nat) (hx : a.eval x = .slice ma 0 c)
 (h : wpList P ops Q rest (a.put o.dst v) w) : wpList P ops Q (o :: rest) a w := by
 refine wpList_plain hgd fun K hK => ?_
 have hrun := run_append_zero (P := P) (w := w) base t o.type e i size ht hi v n xs hown ma c
 unfold Oper.wp
 simp [execOp, ho, resolve, invoke, builtin, hs, hx, hrun, Result.andThen]
 exact hK _ _ h
def LargeP (w : World) (e : Xp) (r : Ending) (w' : World) : Prop := (∃ b, r = .returned (.bool b) ∧ (b = false → e.nodes ≤ 2000)) ∧ Below w.heap.size w w'
theorem lp_true {w w' : World} {e : Xp} (hB : Below w.heap.size w w') : LargeP w e (.returned (.bool true)) w' := ⟨⟨_, rfl, fun h => by cases h⟩, hB⟩
theorem lp_false {w w' : World} {e : Xp} (hn : e.nodes ≤ 2000) (hB : Below w.heap.size w w') : LargeP w e (.returned (.bool false)) w' := ⟨⟨_, rfl, fun _ => hn⟩, hB⟩
theorem nodes_row {e0 j : Nat} {L R : List Kx} {l : List Xp} (hR : R.map (·.x) = l) (hj : j < L.length) (h : e0 = j + 1 + (nodesL l + nodesL ((L.drop (j + 1)).map (·.x)))) :
 e0 = (j + 1) + nodesL (((L ++ R).drop (j + 1)).map (·.x)) := by
 rw [List.drop_append_of_le_length (by omega), List.map_append, nodesL_app, hR]
 omega
theorem large07 (e : Xp) (v : Value) (w : World) (hE : IsE (fun b => b < w.heap.size) w v e) :
 Calls Tryz.prog 16 #[v] w (LargeP w e) := by
 obtain ⟨i0, hi, hz0, hz1, hz2⟩ := info_parts infoE
 have HE := Lib.hid hE
 cases hE with
 | @mk k n s o l ma cap ho hl hk =>
  obtain ⟨e0, he0⟩ : ∃ e0, e0 = Xp.mk k n s o l := ⟨_, rfl⟩
  rw [← he0] at HE ⊢
  obtain ⟨N, hN⟩ : ∃ N, N = l.length := ⟨_, rfl⟩
  rw [← hN] at HE hl ⊢
  have hK0 : Kx.is (fun b => b < w.heap.size) w ⟨k, n, s, o, ma, N, cap, e0⟩ := HE.out
  have hBw : Below w.heap.size w ((w.alloc (.cells #[.int .u8 (k : Int), .int .u64 (n : Int), .string (str s), .int .u8 (o : Int), .slice ma N cap] 47)).alloc (.cells #[.int .u8 (k : Int), .int .u64 (n : Int), .string (str s), .int .u8 (o : Int), .slice ma N cap] 47)) := aB (aB (Below.refl _ _) _) _
  have hown0 : ((w.alloc (.cells #[.int .u8 (k : Int), .int .u64 (n : Int), .string (str s), .int .u8 (o : Int), .slice ma N cap] 47)).alloc (.cells #[.int .u8 (k : Int), .int .u64 (n : Int), .string (str s), .int .u8 (o : Int), .slice ma N cap] 47)).ownsRow w.heap.size 47 5 (.slice (some ⟨w.heap.size + 1, 0, none⟩) 1 1) 1 (kxs [⟨k, n, s, o, ma, N, cap, e0⟩]) := by
   refine ⟨rfl, .inr ⟨w.heap.size + 1, 1, #[.int .u8 (k : Int), .int .u64 (n : Int), .string (str s), .int .u8 (o : Int), .slice ma N cap], rfl, by omega, ?_, Nat.le_refl _, by unfold maxLen; omega, rfl, rfl⟩⟩
   have := heap_alloc_new (w.alloc (.cells #[.int .u8 (k : Int), .int .u64 (n : Int), .string (str s), .int .u8 (o : Int), .slice ma N cap] 47)) (.cells #[.int .u8 (k : Int), .int .u64 (n : Int), .string (str s), .int .u8 (o : Int), .slice ma N cap] 47)
   rw [World.size_alloc] at this
   exact this
  have hKw := kx_mv hK0 hBw (fun b hb => hb)
  have HKW := Lib.hid hKw
  have hnn : e0.nodes = 0 + nodesL ([(⟨k, n, s, o, ma, N, cap, e0⟩ : Kx)].map (·.x)) := by simp [nodesL]
  have HNN := Lib.hid hnn
  clear hk he0 hN hK0 hKw hnn
  go_enter Tryz.func16, Tryz.ntmps16
  go_wp2
  go_loopw [3, 4, 5] (fun lv nv iv wr => ∃ (L : List Kx) (j : Nat) (nn : Int), j ≤ L.length ∧ L.length ≤ 2000 ∧ nv = .int .i64 nn ∧ iv = .int .i64 (j : Int) ∧ wr.ownsRow w.heap.size 47 5 lv L.length (kxs L) ∧ Below w.heap.size w wr ∧ Hid (∀ K ∈ L, K.is (fun b => b < w.heap.size) wr) ∧ Hid (e0.nodes = j + nodesL ((L.drop j).map (·.x)))) (fun _ _ iv _ => e0.nodes - (intOf iv).toNat)
  case atStart => exact ⟨[⟨k, n, s, o, ma, N, cap, e0⟩], 0, 0, by simp, by simp, rfl, rfl, hown0, hBw, Lib.hid (fun K hK => by simp at hK; subst hK; exact HKW.out), HNN⟩
  case round =>
   obtain ⟨L, j, nn, hjL, hL, rfl, rfl, hown, hB, hKs, hnd⟩ := hrel
   by_cases hlt : j < L.length
   ·have hown' := hown
    obtain ⟨g, cg, rfl, hg1, hg2⟩ := hown.form (by omega)
    have hat := fun r (hr : r < 5) => (hown.cellAt (j * 5 + r) (by omega)).trans (kxs_at L j hlt r hr)
    have q2 : wr.cell? ⟨g, j * 5 + 2, none⟩ = some (.string (str L[j].s)) := hat 2 (by omega)
    have q4 : wr.cell? ⟨g, j * 5 + 4, none⟩ = some (.slice L[j].ma L[j].m L[j].cap) := hat 4 (by omega)
    obtain ⟨hm1, hm2, hkk, _⟩ := kx_of (hKs.out L[j] (List.getElem_mem hlt))
    have hstep : e0.nodes = j + 1 + (nodesL L[j].x.l + nodesL ((L.drop (j + 1)).map (·.x))) := by
     have h1 := hnd.out
     rw [List.drop_eq_getElem_cons hlt, List.map_cons, nodesL, nodes_l L[j].x] at h1
     omega
    have HST := Lib.hid hstep
    have HKK := Lib.hid hkk
    have HM1 := Lib.hid hm1
    have hjn : j < e0.nodes := by omega
    clear hstep hkk hm1 hat
    obtain ⟨NL, hNL⟩ : ∃ NL, NL = L.length := ⟨_, rfl⟩
    rw [← hNL] at hown hlt hL hjL ⊢
    have HNL := Lib.hid hNL
    clear hNL
    have hwl : IntKind.i64.wrap ((NL : Int) + (L[j].m : Int)) = (NL : Int) + (L[j].m : Int) := by rw [IntKind.wrap_i64]; omega
    obtain ⟨sv, hsv⟩ : ∃ sv, str L[j].s = sv := ⟨_, rfl⟩
    rw [hsv] at q2
    clear hsv
    obtain ⟨mj, hmj⟩ : ∃ mj, L[j].m = mj := ⟨_, rfl⟩
    obtain ⟨cj, hcj⟩ : ∃ cj, L[j].cap = cj := ⟨_, rfl⟩
    obtain ⟨aj, haj⟩ : ∃ aj, L[j].ma = aj := ⟨_, rfl⟩
    have HMJ := Lib.hid hmj
    have HAJ := Lib.hid haj
    rw [hmj, hcj, haj] at q4
    rw [hmj] at hwl hm2
    clear hmj hcj haj
    by_cases h2 : 2000 < (NL : Int) + (mj : Int)
    ·go_wp2
     go_ret
     exact lp_true hB
    ·by_cases h3 : 3000 < wrap64 (wrap64 (nn + 1) + wrap64 ((sv.size : Int) / 20))
     ·go_wp2
      go_ret
      exact lp_true hB
     ·by_cases hm0 : mj = 0
      ·subst hm0
       go_wp2_with (at_builtin; refine wpList_append_zero rfl _ _ 41 rfl w.heap.size 47 i0 5 Tryz.underlying41 hi _ NL (kxs L) rfl hown aj cj rfl ?_)
       go_wp2
       go_roundw
       case rel => exact ⟨L, j + 1, _, by have := HNL.out; omega, by have := HNL.out; omega, rfl, by go_num, by rw [← HNL.out]; exact hown, hB, hKs, Lib.hid (by
        have h1 := HST.out
        have h2 : L[j].x.l = [] := List.length_eq_zero_iff.1 (by rw [← HM1.out, HMJ.out])
        rw [h2, nodesL] at h1
        omega)⟩
       case measure => simp [intOf]; omega
      ·have hkk := HKK.out
       rw [HAJ.out] at hkk
       obtain ⟨g1, o1, rfl⟩ := kids_some hkk (by rw [← HM1.out, HMJ.out]; omega)
       obtain ⟨R, hR, hRc, hRi⟩ := kids_row _ _ hkk
       have hRl : R.length = mj := by have := congrArg List.length hR; rw [List.length_map, ← HM1.out, HMJ.out] at this; exact this
       have HR := Lib.hid hR
       have HRL := Lib.hid hRl
       have HRI := Lib.hid hRi
       clear hkk hR hRl hRi
       go_wp2_with (at_builtin; refine wpList_append_lies _ rfl _ _ 41 rfl w.heap.size 47 i0 _ 5 64 Tryz.underlying41 hi hz0 hz1 hz2 rfl (by decide) _ NL (kxs L) rfl hown ⟨g1, o1, none⟩ mj cj (kxs R) rfl ?cL ?cN ?c0 ?c9 ?c1 ?c2 ?c3 _ rfl ?_)
       case cL => rw [kxs_len, HRL.out]
       case cN => exact fun j u hu => hRc j u hu
       case c0 => exact kxs_one _
       case c9 => omega
       case c1 => unfold maxLen; omega
       case c2 => omega
       case c3 => exact hB.size
       intro g5 cap5 w5 hown5 hgrow hat hlt5
       go_wp2
       have ho5 := only_grown hgrow
       have hgb : ∀ b, b < w.heap.size → ¬ some b = (Value.slice (some ⟨g, 0, none⟩) NL cg).ownBlock := fun b hb e => by simp only [Value.ownBlock, Option.some.injEq] at e; omega
       have hB5 : Below w.heap.size w w5 := hB.grown hgrow hB.size (fun k hk => by simp only [Value.ownBlock, Option.some.injEq] at hk; omega)
       have hlen5 : (L ++ R).length = NL + mj := by rw [List.length_append, ← HNL.out, HRL.out]
       have hst := HST.out
       have hjl : j < L.length := by rw [← HNL.out]; exact hlt
       go_roundw
       case rel => exact ⟨L ++ R, j + 1, _, by rw [hlen5]; omega, by rw [hlen5]; omega, rfl, by go_num, by rw [hlen5, kxs_app]; exact hown5, hB5, Lib.hid (fun K hK => by
        rcases List.mem_append.1 hK with h1 | h1
        ·exact (hKs.out K h1).only ho5 (fun b hb => hgb b hb)
        ·exact (HRI.out K h1).only ho5 (fun b hb => hgb b hb)), Lib.hid (nodes_row HR.out hjl hst)⟩
       case measure => simp [intOf]; omega
   ·obtain rfl : j = L.length := by omega
    obtain ⟨alv, clv, rfl⟩ := row_form hown
    have hfin : e0.nodes ≤ 2000 := by
     have h1 := hnd.out
     rw [List.drop_length, List.map_nil, nodesL] at h1
     omega
    have HF := Lib.hid hfin
    clear hfin
    go_wp2
    go_ret
    exact lp_false HF.out hB
end Go.Proofs.YtfbjljcmmbdhkaaGreatDoor
