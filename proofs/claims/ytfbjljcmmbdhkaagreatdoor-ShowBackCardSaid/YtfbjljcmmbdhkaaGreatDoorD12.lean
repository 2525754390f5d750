/- Worlds in which only some blocks change; rows of tokens; expressions in memory. -/
import Derived.Test.YtfbjljcmmbdhkaaGreatDoorD11
import Derived.ChangeArms
import Derived.ChangeSame
import Derived.Deep.AppendLies
import Derived.Laws.AppendOwnNone
namespace Go.Proofs.YtfbjljcmmbdhkaaGreatDoor
set_option linter.unusedVariables false
set_option linter.unusedSimpArgs false
set_option maxRecDepth 100000
set_option maxHeartbeats 200000000
open Go.ChangeShapes Go.WideShapes Go.ChangeAt Go.RowKit
structure Only (S : Nat → Prop) (w w' : World) : Prop where
 os : w'.os = w.os
 tape : w'.tape = w.tape
 output : w'.output = w.output
 size : w.heap.size ≤ w'.heap.size
 block : ∀ j, j < w.heap.size → ¬ S j → w'.heap[j]? = w.heap[j]?
theorem Only.refl (S : Nat → Prop) (w : World) : Only S w w := ⟨rfl, rfl, rfl, Nat.le_refl _, fun _ _ _ => rfl⟩
theorem Only.trans {S : Nat → Prop} {a b c : World} (h : Only S a b) (k : Only S b c) : Only S a c :=
 ⟨k.os.trans h.os, k.tape.trans h.tape, k.output.trans h.output, Nat.le_trans h.size k.size, fun j hj hs => (k.block j (Nat.lt_of_lt_of_le hj h.size) hs).trans (h.block j hj hs)⟩
theorem zQd {S : Nat → Prop} {w w' : World} (h : Below w.heap.size w w') : Only S w w' := ⟨h.os, h.tape, h.output, h.size, fun j hj _ => h.block j hj⟩
theorem Only.mono {S T : Nat → Prop} {w w' : World} (h : Only S w w') (hs : ∀ j, S j → T j) : Only T w w' := ⟨h.os, h.tape, h.output, h.size, fun j hj ht => h.block j hj (fun hh => ht (hs j hh))⟩
theorem Only.below {S : Nat → Prop} {w w' : World} {B : Nat} (h : Only S w w') (hS : ∀ j, S j → B ≤ j) (hB : B ≤ w.heap.size) : Below B w w' :=
 ⟨h.os, h.tape, h.output, h.size, fun j hj => h.block j (by omega) (fun hh => by have := hS j hh; omega)⟩
theorem Only.cell {S : Nat → Prop} {w w' : World} (h : Only S w w') {a : Addr} {v : Value} (hs : ¬ S a.block) (hc : w.cell? a = some v) : w'.cell? a = some v := by
 have e := h.block a.block (World.block_lt_of_cell? w _ hc) hs
 rw [← hc]; unfold World.cell?; rw [e]
theorem Only.frozen {S : Nat → Prop} {w w' : World} (h : Only S w w') {a : Addr} (hl : a.block < w.heap.size) (hs : ¬ S a.block) : w'.frozen? a = w.frozen? a := by
 have e := h.block a.block hl hs
 unfold World.frozen?; rw [e]
theorem Only.setCell {S : Nat → Prop} {w w' : World} (h : Only S w w') {b o : Nat} {v : Value} (hs : S b) : Only S w (w'.setCell ⟨b, o, none⟩ v) :=
 ⟨h.os, h.tape, h.output, by simp only [World.size_setCell]; exact h.size, fun j hj hn => (Below.heap_setCell _ _ _ _ (by simp only; intro e; subst e; exact hn hs)).trans (h.block j hj hn)⟩
theorem zXc {w w' : World} {row : Option Nat} (h : w.grownBy w' row) : Only (fun j => some j = row) w w' := ⟨h.os, h.tape, h.output, h.size, h.block⟩
theorem zXn {S : Nat → Prop} {w w' : World} (h : Only S w w') (n : Nat) : Only S w (w'.drewN n) := h.trans (zQd (bdN (Below.refl _ _) n))
theorem Only.old {S T : Nat → Prop} {a b c : World} (h : Only T a b) (k : Only S b c) (hs : ∀ j, S j → T j ∨ a.heap.size ≤ j) : Only T a c :=
 ⟨k.os.trans h.os, k.tape.trans h.tape, k.output.trans h.output, Nat.le_trans h.size k.size, fun j hj ht => (k.block j (Nat.lt_of_lt_of_le hj h.size) (fun hh => (hs j hh).elim (fun h1 => ht h1) (fun h1 => absurd hj (by omega)))).trans (h.block j hj ht)⟩
theorem cset {w : World} {b o o' : Nat} {v u : Value} (h : w.cell? ⟨b, o', none⟩ = some u) (hn : o' ≠ o) : (w.setCell ⟨b, o, none⟩ v).cell? ⟨b, o', none⟩ = some u := by
 rw [World.cell?_setCell_other (h := by intro e; injection e with _ h2 _; exact hn h2.symm)]; exact h
theorem zZv {w : World} {b o : Nat} {v u : Value} (h : w.cell? ⟨b, o, none⟩ = some u) : (w.setCell ⟨b, o, none⟩ v).cell? ⟨b, o, none⟩ = some v := World.cell?_setCell_same (h := h) ..
theorem zQy {w w' : World} {base size n : Nat} {e : TypeId} {v : Value} {xs : List Value} {S : Nat → Prop} (h : w.ownsRow base e size v n xs) (ho : Only S w w') (hn : ∀ j, v.ownBlock = some j → ¬ S j) : w'.ownsRow base e size v n xs := by
 refine ⟨h.1, ?_⟩
 rcases h.2 with h0 | ⟨g, cap, cur, hv, hg, hh, hr⟩
 ·exact Or.inl h0
 ·refine Or.inr ⟨g, cap, cur, hv, hg, ?_, hr⟩
  rw [ho.block g (Array.getElem?_eq_some_iff.1 hh).1 (hn g (by rw [hv]; rfl))]
  exact hh
theorem zQu {w : World} {base size n : Nat} {e : TypeId} {v : Value} {xs : List Value} {j : Nat} (h : w.ownsRow base e size v n xs) (hj : v.ownBlock = some j) : base ≤ j ∧ j < w.heap.size := by
 rcases h.2 with ⟨h0, _⟩ | ⟨g, cap, cur, hv, hg, hh, hr⟩
 ·rw [h0] at hj; cases hj
 ·rw [hv] at hj
  cases hj
  exact ⟨hg, (Array.getElem?_eq_some_iff.1 hh).1⟩
def zQl (l : List (Tk × Int)) : List Value := l.flatMap fun x => [.int .u8 (x.1.k : Int), .string (str x.1.t), .int .u64 (x.1.n : Int), .int .i64 x.2]
theorem cellsZ_app (a b : List (Tk × Int)) : zQl (a ++ b) = zQl a ++ zQl b := by simp [zQl]
theorem xQg (l : List (Tk × Int)) : (zQl l).length = l.length * 4 := by
 induction l with
 | nil => rfl
 | cons x l ih =>
  show (_ :: _ :: _ :: _ :: zQl l).length = _
  simp only [List.length_cons, ih]
  omega
theorem zXr (l : List (Tk × Int)) : ∀ u ∈ zQl l, u.oneCell' = true := by
 intro u hu
 unfold zQl at hu
 obtain ⟨p, _, hp⟩ := List.mem_flatMap.1 hu
 simp only [List.mem_cons, List.not_mem_nil, or_false] at hp
 rcases hp with rfl | rfl | rfl | rfl <;> rfl
theorem cellsZ_at : ∀ (l : List (Tk × Int)) (i : Nat) (h : i < l.length), (zQl l)[i * 4]? = some (.int .u8 (l[i].1.k : Int)) ∧ (zQl l)[i * 4 + 1]? = some (.string (str l[i].1.t)) ∧ (zQl l)[i * 4 + 2]? = some (.int .u64 (l[i].1.n : Int)) ∧ (zQl l)[i * 4 + 3]? = some (.int .i64 l[i].2) := by
 intro l
 induction l with
 | nil => intro i h; simp at h
 | cons x l ih =>
  intro i h
  cases i with
  | zero => simp [zQl]
  | succ i =>
   have e : ∀ r, (zQl (x :: l))[(i + 1) * 4 + r]? = (zQl l)[i * 4 + r]? := fun r => by
    show (_ :: _ :: _ :: _ :: zQl l)[(i + 1) * 4 + r]? = _
    rw [show (i + 1) * 4 + r = (i * 4 + r) + 1 + 1 + 1 + 1 by omega]
    rfl
   obtain ⟨a0, a1, a2, a3⟩ := ih i (by simpa using h)
   exact ⟨(e 0).trans a0, (e 1).trans a1, (e 2).trans a2, (e 3).trans a3⟩
structure RowZ (w : World) (v : Value) (T : List (Tk × Int)) : Prop where
 row : ∃ (ma : Option Addr) (c : Nat), v = .slice ma T.length c ∧ ∀ i (h : i < T.length), ∃ b o, ma = some ⟨b, o, none⟩ ∧ b < w.heap.size ∧ w.cell? ⟨b, o + i * 4, none⟩ = some (.int .u8 (T[i].1.k : Int)) ∧ w.cell? ⟨b, o + i * 4 + 1, none⟩ = some (.string (str T[i].1.t)) ∧ w.cell? ⟨b, o + i * 4 + 2, none⟩ = some (.int .u64 (T[i].1.n : Int)) ∧ w.cell? ⟨b, o + i * 4 + 3, none⟩ = some (.int .i64 T[i].2)
theorem RowZ.of {w w' : World} {v : Value} {T : List (Tk × Int)} (h : RowZ w v T) (hb : Below w.heap.size w w') : RowZ w' v T := by
 obtain ⟨ma, c, rfl, hc⟩ := h.row
 refine ⟨ma, c, rfl, fun i hi => ?_⟩
 obtain ⟨b, o, e, hl, a0, a1, a2, a3⟩ := hc i hi
 exact ⟨b, o, e, Nat.lt_of_lt_of_le hl hb.size, stay hb a0, stay hb a1, stay hb a2, stay hb a3⟩
theorem RowZ.only {w w' : World} {v : Value} {T : List (Tk × Int)} {S : Nat → Prop} (h : RowZ w v T) (ho : Only S w w') (hn : ∀ j, v.ownBlock = some j → ¬ S j) : RowZ w' v T := by
 obtain ⟨ma, c, rfl, hc⟩ := h.row
 refine ⟨ma, c, rfl, fun i hi => ?_⟩
 obtain ⟨b, o, e, hl, a0, a1, a2, a3⟩ := hc i hi
 have hb : ¬ S b := hn b (by rw [e]; rfl)
 exact ⟨b, o, e, Nat.lt_of_lt_of_le hl ho.size, ho.cell hb a0, ho.cell hb a1, ho.cell hb a2, ho.cell hb a3⟩
theorem rowAt_Z {w : World} {v : Value} {T : List (Tk × Nat)} (h : RowAt w v T) : RowZ w v (T.map fun x => (x.1, (x.2 : Int))) := by
 obtain ⟨b, o, n, c, rfl, hn, hl, hc⟩ := h.row
 refine ⟨some ⟨b, o, none⟩, c, by simp [hn], fun i hi => ⟨b, o, rfl, hl, ?_⟩⟩
 have hi' : i < T.length := by simpa using hi
 obtain ⟨a0, a1, a2, a3⟩ := hc i hi'
 simp only [List.getElem_map]
 exact ⟨a0, a1, a2, a3⟩
inductive KidsAt (G : Nat → Prop) (w : World) : List Xp → Option Addr → Prop
 | nil {ma : Option Addr} : KidsAt G w [] ma
 | cons {k n : Nat} {s : List UInt8} {o : Nat} {l r : List Xp} {b off : Nat} {ma : Option Addr} {cap : Nat} (hg : G b) (c0 : w.cell? ⟨b, off, none⟩ = some (.int .u8 (k : Int))) (c1 : w.cell? ⟨b, off + 1, none⟩ = some (.int .u64 (n : Int)))
    (c2 : w.cell? ⟨b, off + 2, none⟩ = some (.string (str s))) (c3 : w.cell? ⟨b, off + 3, none⟩ = some (.int .u8 (o : Int))) (c4 : w.cell? ⟨b, off + 4, none⟩ = some (.slice ma l.length cap))
    (ho : o < 256) (hl : l.length ≤ 140737488355328) (hk : KidsAt G w l ma) (hr : KidsAt G w r (some ⟨b, off + 5, none⟩)) : KidsAt G w (.mk k n s o l :: r) (some ⟨b, off, none⟩)
theorem KidsAt.mv {G G' : Nat → Prop} {w w' : World} {l : List Xp} {ma : Option Addr} (h : KidsAt G w l ma) (hg : ∀ b, G b → G' b) (hc : ∀ b o v, G b → w.cell? ⟨b, o, none⟩ = some v → w'.cell? ⟨b, o, none⟩ = some v) : KidsAt G' w' l ma := by
 induction h with
 | nil => exact .nil
 | cons h1 c0 c1 c2 c3 c4 ho hl hk hr ik ir => exact .cons (hg _ h1) (hc _ _ _ h1 c0) (hc _ _ _ h1 c1) (hc _ _ _ h1 c2) (hc _ _ _ h1 c3) (hc _ _ _ h1 c4) ho hl ik ir
def xpV (k n : Nat) (s : List UInt8) (o : Nat) (ma : Option Addr) (m cap : Nat) : Value := .agg #[.int .u8 (k : Int), .int .u64 (n : Int), .string (str s), .int .u8 (o : Int), .slice ma m cap]
inductive IsE (G : Nat → Prop) (w : World) : Value → Xp → Prop
 | mk {k n : Nat} {s : List UInt8} {o : Nat} {l : List Xp} {ma : Option Addr} {cap : Nat} (ho : o < 256) (hl : l.length ≤ 140737488355328) (hk : KidsAt G w l ma) : IsE G w (.agg #[.int .u8 (k : Int), .int .u64 (n : Int), .string (str s), .int .u8 (o : Int), .slice ma l.length cap]) (.mk k n s o l)
theorem IsE.mv {G G' : Nat → Prop} {w w' : World} {v : Value} {e : Xp} (h : IsE G w v e) (hg : ∀ b, G b → G' b) (hc : ∀ b o v, G b → w.cell? ⟨b, o, none⟩ = some v → w'.cell? ⟨b, o, none⟩ = some v) : IsE G' w' v e := by
 cases h with
 | mk ho hl hk => exact .mk ho hl (hk.mv hg hc)
theorem IsE.of {G : Nat → Prop} {w w' : World} {v : Value} {e : Xp} (h : IsE G w v e) (hb : Below w.heap.size w w') : IsE G w' v e := h.mv (fun _ h => h) (fun b o v _ hc => stay hb hc)
theorem IsE.only {G S : Nat → Prop} {w w' : World} {v : Value} {e : Xp} (h : IsE G w v e) (ho : Only S w w') (hs : ∀ b, G b → ¬ S b) : IsE G w' v e := h.mv (fun _ h => h) (fun b o v hg hc => ho.cell (hs b hg) hc)
theorem IsE.below {G : Nat → Prop} {w w' : World} {v : Value} {e : Xp} {B : Nat} (h : IsE G w v e) (hb : Below B w w') (hs : ∀ b, G b → b < B) : IsE G w' v e := h.mv (fun _ h => h) (fun b o v hg hc => (hb.cell (hs b hg)).trans hc)
theorem IsE.mono {G G' : Nat → Prop} {w : World} {v : Value} {e : Xp} (h : IsE G w v e) (hg : ∀ b, G b → G' b) : IsE G' w v e := h.mv hg (fun _ _ _ _ h => h)
structure KidAt (G : Nat → Prop) (w : World) (b off : Nat) (x : Xp) : Prop where
 kid : ∃ (ma : Option Addr) (cap : Nat), G b ∧ b < w.heap.size ∧ w.cell? ⟨b, off, none⟩ = some (.int .u8 (x.k : Int)) ∧ w.cell? ⟨b, off + 1, none⟩ = some (.int .u64 (x.n : Int)) ∧ w.cell? ⟨b, off + 2, none⟩ = some (.string (str x.s)) ∧ w.cell? ⟨b, off + 3, none⟩ = some (.int .u8 (x.o : Int)) ∧ w.cell? ⟨b, off + 4, none⟩ = some (.slice ma x.l.length cap) ∧ x.o < 256 ∧ x.l.length ≤ 140737488355328 ∧ KidsAt G w x.l ma
theorem zKk {G : Nat → Prop} {w : World} : ∀ (l : List Xp) (b off : Nat), KidsAt G w l (some ⟨b, off, none⟩) → ∀ i (h : i < l.length), KidAt G w b (off + i * 5) l[i] := by
 intro l
 induction l with
 | nil => intro b off _ i h; simp at h
 | cons x r ih =>
  intro b off hk i h
  cases hk with
  | cons hg c0 c1 c2 c3 c4 ho hl hk hr =>
   cases i with
   | zero => exact ⟨_, _, hg, World.block_lt_of_cell? w _ c0, c0, c1, c2, c3, c4, ho, hl, hk⟩
   | succ i =>
    have := ih b (off + 5) hr i (by simpa using h)
    rw [show off + (i + 1) * 5 = off + 5 + i * 5 by omega]
    exact this
theorem zXb {G : Nat → Prop} {w : World} {l : List Xp} {ma : Option Addr} (h : KidsAt G w l ma) (hl : 0 < l.length) : ∃ b off, ma = some ⟨b, off, none⟩ := by
 cases h with
 | nil => simp at hl
 | cons => exact ⟨_, _, rfl⟩
theorem xp_eta (x : Xp) : Xp.mk x.k x.n x.s x.o x.l = x := by cases x; rfl
theorem KidAt.isE {G : Nat → Prop} {w : World} {b off : Nat} {x : Xp} (h : KidAt G w b off x) : ∃ (ma : Option Addr) (cap : Nat), w.cell? ⟨b, off, none⟩ = some (.int .u8 (x.k : Int)) ∧ w.cell? ⟨b, off + 1, none⟩ = some (.int .u64 (x.n : Int)) ∧ w.cell? ⟨b, off + 2, none⟩ = some (.string (str x.s)) ∧ w.cell? ⟨b, off + 3, none⟩ = some (.int .u8 (x.o : Int)) ∧ w.cell? ⟨b, off + 4, none⟩ = some (.slice ma x.l.length cap) ∧ IsE G w (.agg #[.int .u8 (x.k : Int), .int .u64 (x.n : Int), .string (str x.s), .int .u8 (x.o : Int), .slice ma x.l.length cap]) x := by
 obtain ⟨ma, cap, _, _, c0, c1, c2, c3, c4, ho, hl, hk⟩ := h.kid
 refine ⟨ma, cap, c0, c1, c2, c3, c4, ?_⟩
 have := IsE.mk (G := G) (w := w) (k := x.k) (n := x.n) (s := x.s) (cap := cap) ho hl hk
 rw [xp_eta] at this
 exact this
mutual
def Xp.nodes : Xp → Nat
 | .mk _ _ _ _ l => 1 + zXv l
def zXv : List Xp → Nat
 | [] => 0
 | x :: r => x.nodes + zXv r
end
theorem xXm (x : Xp) : 1 ≤ x.nodes := by cases x; rw [Xp.nodes]; omega
theorem yKz : ∀ (a b : List Xp), zXv (a ++ b) = zXv a + zXv b
 | [], b => by rw [zXv]; simp
 | x :: a, b => by rw [List.cons_append, zXv, zXv, yKz a b]; omega
theorem yZo {x : Xp} : ∀ {l : List Xp}, x ∈ l → x.nodes ≤ zXv l
 | y :: l, h => by
   rw [zXv]
   rcases List.mem_cons.1 h with rfl | h
   ·omega
   ·have := yZo h; omega
theorem nodes_l (x : Xp) : x.nodes = 1 + zXv x.l := by cases x; rw [Xp.nodes]; rfl
theorem yZp (W : World) (c : Array Value) (t : TypeId) (j : Nat) : (W.alloc (.cells c t)).frozen? ⟨W.heap.size, j, none⟩ = false := by
 have e : (W.alloc (.cells c t)).heap[W.heap.size]? = some (.cells c t (0, 0)) := by show (W.heap.push _)[W.heap.size]? = _; simp
 unfold World.frozen?
 simp only [e]
 simp
def rowG (C : Array Value) (w : World) (k : Nat) : Prop := (∀ i, i < C.size → w.cell? ⟨k, i, none⟩ = C[i]?) ∧ (∀ i, w.frozen? ⟨k, i, none⟩ = false) ∧ k < w.heap.size
theorem yJi {C : Array Value} {X Y : World} {k : Nat} (h : rowG C X k) (e : Y.heap[k]? = X.heap[k]?) (hs : k < Y.heap.size) : rowG C Y k :=
 ⟨fun i hi => by rw [← h.1 i hi]; unfold World.cell?; rw [e], fun i => by rw [← h.2.1 i]; unfold World.frozen?; rw [e], hs⟩
theorem rowG_below {C : Array Value} {X Y : World} {k B : Nat} (h : rowG C X k) (hb : Below B X Y) (hk : k < B) : rowG C Y k := yJi h (hb.block k hk) (Nat.lt_of_lt_of_le h.2.2 hb.size)
theorem zQh {C : Array Value} {X Y : World} {k : Nat} (h : rowG C X k) (hb : Below X.heap.size X Y) : rowG C Y k := rowG_below h hb h.2.2
theorem zQa {C : Array Value} {X Y : World} {k : Nat} {S : Nat → Prop} (h : rowG C X k) (ho : Only S X Y) (hk : ¬ S k) : rowG C Y k := yJi h (ho.block k h.2.2 hk) (Nat.lt_of_lt_of_le h.2.2 ho.size)
theorem zQf (C : Array Value) (t : TypeId) (w : World) (k : Nat) (hk : k = w.heap.size) : rowG C (w.alloc (.cells C t)) k := by subst hk; exact ⟨fun i _ => zQp w C t i, fun i => yZp w C t i, by simp⟩
theorem zQj {C : Array Value} {X : World} {k : Nat} (h : rowG C X k) (o : Obj) : rowG C (X.alloc o) k := yJi h (Below.heap_alloc _ _ _ h.2.2) (by have := h.2.2; simp; omega)
theorem zQm {C : Array Value} {w : World} {k j o : Nat} (u : Value) (h : rowG C w k) (hn : k ≠ j) : rowG C (w.setCell ⟨j, o, none⟩ u) k := yJi h (Below.heap_setCell _ _ _ _ hn) (by simp only [World.size_setCell]; exact h.2.2)
theorem yZm {fn : Func} {p : Tmp} (h : fn.results = #[.cell p 95]) (tmps : Array Value) (w : World) (g : Nat) (c0 c1 c2 c3 : Value) (hp : tmps.getD p undef = .pointer (some ⟨g, 0, none⟩)) (hr : rowG #[c0, c1, c2, c3] w g) :
 (results fn tmps).run Tryz.prog w = .ok (.agg #[c0, c1, c2, c3]) w := by
 have hp' : tmps[p]?.getD undef = .pointer (some ⟨g, 0, none⟩) := by simpa using hp
 have h0 : w.cell? ⟨g, 0, none⟩ = some c0 := hr.1 0 (by simp)
 have h1 : w.cell? ⟨g, 1, none⟩ = some c1 := hr.1 1 (by simp)
 have h2 : w.cell? ⟨g, 2, none⟩ = some c2 := hr.1 2 (by simp)
 have h3 : w.cell? ⟨g, 3, none⟩ = some c3 := hr.1 3 (by simp)
 simp [results, h, hp', go_sem, h0, h1, h2, h3]
theorem xJu {fn : Func} {p : Tmp} (h : fn.results = #[.cell p 47]) (tmps : Array Value) (w : World) (g : Nat) (c0 c1 c2 c3 c4 : Value) (hp : tmps.getD p undef = .pointer (some ⟨g, 0, none⟩)) (hr : rowG #[c0, c1, c2, c3, c4] w g) :
 (results fn tmps).run Tryz.prog w = .ok (.agg #[c0, c1, c2, c3, c4]) w := by
 have hp' : tmps[p]?.getD undef = .pointer (some ⟨g, 0, none⟩) := by simpa using hp
 have h0 : w.cell? ⟨g, 0, none⟩ = some c0 := hr.1 0 (by simp)
 have h1 : w.cell? ⟨g, 1, none⟩ = some c1 := hr.1 1 (by simp)
 have h2 : w.cell? ⟨g, 2, none⟩ = some c2 := hr.1 2 (by simp)
 have h3 : w.cell? ⟨g, 3, none⟩ = some c3 := hr.1 3 (by simp)
 have h4 : w.cell? ⟨g, 4, none⟩ = some c4 := hr.1 4 (by simp)
 simp [results, h, hp', go_sem, h0, h1, h2, h3, h4]
theorem zJe {fn : Func} {p q : Tmp} (h : fn.results = #[.cell p 47, .tmp q]) (tmps : Array Value) (w : World) (g : Nat) (c0 c1 c2 c3 c4 d : Value) (hp : tmps.getD p undef = .pointer (some ⟨g, 0, none⟩)) (hq : tmps.getD q undef = d) (hr : rowG #[c0, c1, c2, c3, c4] w g) :
 (results fn tmps).run Tryz.prog w = .ok (.tuple #[.agg #[c0, c1, c2, c3, c4], d]) w := by
 have hp' : tmps[p]?.getD undef = .pointer (some ⟨g, 0, none⟩) := by simpa using hp
 have hq' : tmps[q]?.getD undef = d := by simpa using hq
 have h0 : w.cell? ⟨g, 0, none⟩ = some c0 := hr.1 0 (by simp)
 have h1 : w.cell? ⟨g, 1, none⟩ = some c1 := hr.1 1 (by simp)
 have h2 : w.cell? ⟨g, 2, none⟩ = some c2 := hr.1 2 (by simp)
 have h3 : w.cell? ⟨g, 3, none⟩ = some c3 := hr.1 3 (by simp)
 have h4 : w.cell? ⟨g, 4, none⟩ = some c4 := hr.1 4 (by simp)
 simp [results, h, hp', hq', go_sem, h0, h1, h2, h3, h4]
theorem jQb {fn : Func} {p q r : Tmp} (h : fn.results = #[.cell p 47, .tmp q, .tmp r]) (tmps : Array Value) (w : World) (g : Nat) (c0 c1 c2 c3 c4 d e : Value) (hp : tmps.getD p undef = .pointer (some ⟨g, 0, none⟩)) (hq : tmps.getD q undef = d) (hs : tmps.getD r undef = e) (hr : rowG #[c0, c1, c2, c3, c4] w g) :
 (results fn tmps).run Tryz.prog w = .ok (.tuple #[.agg #[c0, c1, c2, c3, c4], d, e]) w := by
 have hp' : tmps[p]?.getD undef = .pointer (some ⟨g, 0, none⟩) := by simpa using hp
 have hq' : tmps[q]?.getD undef = d := by simpa using hq
 have hs' : tmps[r]?.getD undef = e := by simpa using hs
 have h0 : w.cell? ⟨g, 0, none⟩ = some c0 := hr.1 0 (by simp)
 have h1 : w.cell? ⟨g, 1, none⟩ = some c1 := hr.1 1 (by simp)
 have h2 : w.cell? ⟨g, 2, none⟩ = some c2 := hr.1 2 (by simp)
 have h3 : w.cell? ⟨g, 3, none⟩ = some c3 := hr.1 3 (by simp)
 have h4 : w.cell? ⟨g, 4, none⟩ = some c4 := hr.1 4 (by simp)
 simp [results, h, hp', hq', hs', go_sem, h0, h1, h2, h3, h4]
theorem od1 {S : Nat → Prop} {W : World} : Only S W W.drew := ⟨rfl, rfl, rfl, Nat.le_refl _, fun _ _ _ => rfl⟩
theorem zKb {w : World} {B n : Nat} {e : TypeId} {size : Nat} {v : Value} {xs : List Value} (h : w.ownsRow B e size v n xs) : ∃ (a : Option Addr) (c : Nat), v = .slice a n c := by
 rcases h.2 with ⟨h0, h1⟩ | ⟨g, cap, cur, hv, hg, hh, hr⟩
 ·exact ⟨none, 0, by rw [h0, h1]⟩
 ·exact ⟨_, _, hv⟩
theorem yZn (n : Nat) (w : World) : Calls Tryz.prog 184 #[.int .u64 (n : Int)] w fun e w' => e = .returned (.agg #[.int .u8 3, .string ⟨#[]⟩, .int .u64 (n : Int), .int .i64 0]) ∧ Below w.heap.size w w' := by
 go_enter Tryz.func184, Tryz.ntmps184
 go_wp2
 exact bodyPost_ret (yZm rfl _ _ w.heap.size _ _ _ _ rfl (zQf _ _ _ _ rfl)) rfl ⟨rfl, (Below.refl _ _).alloc (Nat.le_refl _) _⟩
theorem yZd (s : ByteArray) (w : World) : Calls Tryz.prog 185 #[.string s] w fun e w' => e = .returned (.agg #[.int .u8 1, .string s, .int .u64 0, .int .i64 0]) ∧ Below w.heap.size w w' := by
 go_enter Tryz.func185, Tryz.ntmps185
 go_wp2
 exact bodyPost_ret (yZm rfl _ _ w.heap.size _ _ _ _ rfl (zQf _ _ _ _ rfl)) rfl ⟨rfl, (Below.refl _ _).alloc (Nat.le_refl _) _⟩
theorem zJp (s : ByteArray) (w : World) : Calls Tryz.prog 186 #[.string s] w fun e w' => e = .returned (.agg #[.int .u8 4, .string s, .int .u64 0, .int .i64 0]) ∧ Below w.heap.size w w' := by
 go_enter Tryz.func186, Tryz.ntmps186
 go_wp2
 exact bodyPost_ret (yZm rfl _ _ w.heap.size _ _ _ _ rfl (zQf _ _ _ _ rfl)) rfl ⟨rfl, (Below.refl _ _).alloc (Nat.le_refl _) _⟩
theorem xZn {o : Nat} (h : 15 ≤ o) : opS o = [] := by unfold opS; rw [List.getD_eq_getElem?_getD, List.getElem?_eq_none (by simpa [opsL] using h)]; rfl
theorem signOf_any (o : Nat) (ho : o < 256) (w : World) (hT : Tb w) : Calls Tryz.prog 187 #[.int .u8 (o : Int)] w fun e w' => e = .returned (.string (str (opS o))) ∧ w = w' := by
 have hw : IntKind.i64.wrap (o : Int) = (o : Int) := by rw [IntKind.wrap_i64]; omega
 go_enter Tryz.func187, Tryz.ntmps187
 by_cases h : o < 15
 ·have c0 := hT.esg o h
  have hb := World.block_lt_of_cell? w _ c0
  go_wp2
  go_ret
  exact ⟨rfl, rfl⟩
 ·have e : opS o = [] := xZn (by omega)
  rw [e]
  go_wp2
  go_ret
  exact ⟨rfl, rfl⟩
theorem hz1 {w w1 : World} {o : Obj} (hb : Below (w.alloc o).heap.size (w.alloc o) w1) : w.heap.size < w1.heap.size := by have := hb.size; simp at this; omega
theorem strE (s : List UInt8) : (str s).toList.isEmpty = decide (s = []) := by rw [ByteArray.toList_eq, zXj]; cases s <;> simp
theorem yXj (s : List UInt8) (w : World) (hT : Tb w) : Calls Tryz.prog 56 #[.string (str s)] w fun e w' => e = .returned (.bool (nmdB s)) ∧ Below w.heap.size w w' := by
 have := nmd_any (str s) w hT
 rw [zXj] at this
 exact this
theorem xQa {a b : Nat} (h : a ≠ b) : ((a : Int) == (b : Int)) = false := by simp only [beq_eq_false_iff_ne]; omega
theorem zKm (a : Nat) (b : Int) (c : Nat) (h : b = c) : ((a : Int) == b) = decide (a = c) := by
 subst h
 by_cases h : a = c
 ·subst h; simp
 ·rw [xQa h, decide_eq_false h]
theorem fits_any (k n : Nat) (s : List UInt8) (o : Nat) (ma : Option Addr) (m cap : Nat) (ho : o < 256) (w : World) (hT : Tb w) :
 Calls Tryz.prog 171 #[.agg #[.int .u8 (k : Int), .int .u64 (n : Int), .string (str s), .int .u8 (o : Int), .slice ma m cap]] w fun e w' => e = .returned (.bool (fitB k n s o m)) ∧ Below w.heap.size w w' := by
 have hn0 := zKm n 0 0 rfl
 have ho0 := zKm o 0 0 rfl
 have hm0 := zKm m 0 0 rfl
 have hm1 := zKm m 1 1 rfl
 have hm2 := zKm m 2 2 rfl
 have hsE := strE s
 have hN := yXj s
 have hS := signOf_any o ho
 go_enter Tryz.func171, Tryz.ntmps171
 by_cases h1 : k = 1
 ·subst h1
  cases q1 : decide (s = []) <;> cases q2 : decide (o = 0) <;> cases q3 : decide (m = 0)
  all_goals rw [q1] at hsE
  all_goals rw [q2] at ho0
  all_goals rw [q3] at hm0
  all_goals rw [show fitB 1 n s o m = (decide (s = []) && decide (o = 0) && decide (m = 0)) from rfl, q1, q2, q3]
  all_goals clear hn0 hm1 hm2 hN hS
  all_goals go_wp2_with (first | (go_at_call 56; ((with_reducible refine (hN _ (hT.alloc _)).mono ?_); (rintro e w1 ⟨rfl, hb⟩); obtain ⟨hc, hf⟩ := zKn hb; have hz := hz1 hb)) | (go_at_call 187; ((with_reducible refine (hS _ (hT.alloc _)).mono ?_); rintro e w1 ⟨rfl, rfl⟩)))
  all_goals go_ret
  all_goals first | exact ⟨rfl, aB (Below.refl _ _) _⟩ | exact ⟨rfl, tr (aB (Below.refl _ _) _) hb⟩
 by_cases h2 : k = 2
 ·subst h2
  cases q1 : decide (n = 0) <;> cases q4 : nmdB s <;> cases q2 : decide (o = 0) <;> cases q3 : decide (m = 0)
  all_goals rw [q1] at hn0
  all_goals rw [q2] at ho0
  all_goals rw [q3] at hm0
  all_goals rw [show fitB 2 n s o m = (decide (n = 0) && nmdB s && decide (o = 0) && decide (m = 0)) from rfl, q1, q4, q2, q3]
  all_goals rw [q4] at hN
  all_goals clear hm1 hm2 hS h1
  all_goals go_wp2_with (first | (go_at_call 56; ((with_reducible refine (hN _ (hT.alloc _)).mono ?_); (rintro e w1 ⟨rfl, hb⟩); obtain ⟨hc, hf⟩ := zKn hb; have hz := hz1 hb)) | (go_at_call 187; ((with_reducible refine (hS _ (hT.alloc _)).mono ?_); rintro e w1 ⟨rfl, rfl⟩)))
  all_goals go_ret
  all_goals first | exact ⟨rfl, aB (Below.refl _ _) _⟩ | exact ⟨rfl, tr (aB (Below.refl _ _) _) hb⟩
 by_cases h4 : k = 4
 ·subst h4
  cases q1 : decide (n = 0) <;> cases q4 : nmdB s <;> cases q2 : decide (o = 0) <;> cases q3 : decide (m = 0)
  all_goals rw [q1] at hn0
  all_goals rw [q2] at ho0
  all_goals rw [q3] at hm0
  all_goals rw [show fitB 4 n s o m = (decide (n = 0) && nmdB s && decide (o = 0) && decide (m = 0)) from rfl, q1, q4, q2, q3]
  all_goals rw [q4] at hN
  all_goals clear hm1 hm2 hS h1 h2
  all_goals go_wp2_with (first | (go_at_call 56; ((with_reducible refine (hN _ (hT.alloc _)).mono ?_); (rintro e w1 ⟨rfl, hb⟩); obtain ⟨hc, hf⟩ := zKn hb; have hz := hz1 hb)) | (go_at_call 187; ((with_reducible refine (hS _ (hT.alloc _)).mono ?_); rintro e w1 ⟨rfl, rfl⟩)))
  all_goals go_ret
  all_goals first | exact ⟨rfl, aB (Below.refl _ _) _⟩ | exact ⟨rfl, tr (aB (Below.refl _ _) _) hb⟩
 by_cases h5 : k = 5
 ·subst h5
  cases q1 : decide (n = 0) <;> cases q4 : nmdB s <;> cases q2 : decide (o = 0) <;> cases q3 : decide (m = 1)
  all_goals rw [q1] at hn0
  all_goals rw [q2] at ho0
  all_goals rw [q3] at hm1
  all_goals rw [show fitB 5 n s o m = (decide (n = 0) && nmdB s && decide (o = 0) && decide (m = 1)) from rfl, q1, q4, q2, q3]
  all_goals rw [q4] at hN
  all_goals clear hm0 hm2 hS h1 h2 h4
  all_goals go_wp2_with (first | (go_at_call 56; ((with_reducible refine (hN _ (hT.alloc _)).mono ?_); (rintro e w1 ⟨rfl, hb⟩); obtain ⟨hc, hf⟩ := zKn hb; have hz := hz1 hb)) | (go_at_call 187; ((with_reducible refine (hS _ (hT.alloc _)).mono ?_); rintro e w1 ⟨rfl, rfl⟩)))
  all_goals go_ret
  all_goals first | exact ⟨rfl, aB (Below.refl _ _) _⟩ | exact ⟨rfl, tr (aB (Below.refl _ _) _) hb⟩
 have hoE := strE (opS o)
 by_cases h3 : k = 3
 ·subst h3
  have hd : decide (opS o ≠ []) = !decide (opS o = []) := by simp
  cases q1 : decide (n = 0) <;> cases q2 : decide (s = []) <;> cases q4 : decide (opS o = []) <;> cases q3 : decide (m = 2)
  all_goals rw [q1] at hn0
  all_goals rw [q2] at hsE
  all_goals rw [q4] at hoE
  all_goals rw [q3] at hm2
  all_goals rw [show fitB 3 n s o m = (decide (n = 0) && decide (s = []) && decide (opS o ≠ []) && decide (m = 2)) from rfl, hd, q1, q2, q4, q3]
  all_goals clear hm0 hm1 hN h1 h2 h4 h5 hd ho0
  all_goals go_wp2_with (first | (go_at_call 56; ((with_reducible refine (hN _ (hT.alloc _)).mono ?_); (rintro e w1 ⟨rfl, hb⟩); obtain ⟨hc, hf⟩ := zKn hb; have hz := hz1 hb)) | (go_at_call 187; ((with_reducible refine (hS _ (hT.alloc _)).mono ?_); rintro e w1 ⟨rfl, rfl⟩)))
  all_goals go_ret
  all_goals exact ⟨rfl, aB (Below.refl _ _) _⟩
 ·have g1 := xQa h1
  have g2 := xQa h2
  have g3 := xQa h3
  have g4 := xQa h4
  have g5 := xQa h5
  have hF : fitB k n s o m = false := by unfold fitB; rw [if_neg h1, if_neg (by omega), if_neg h5, if_neg h3]
  rw [hF]
  clear hF h1 h2 h3 h4 h5 hn0 ho0 hm0 hm1 hm2 hsE hoE hN hS
  simp only [Int.ofNat_one] at g1
  go_wp2
  go_ret
  exact ⟨rfl, aB (Below.refl _ _) _⟩
mutual
def Xp.sb (B : Nat) : Xp → Prop
 | .mk _ _ s _ l => s.length ≤ B ∧ sbL B l
def sbL (B : Nat) : List Xp → Prop
 | [] => True
 | x :: r => x.sb B ∧ sbL B r
end
def KidC (w : World) (b off : Nat) (x : Xp) : Prop := ∃ (ma : Option Addr) (cap : Nat), w.cell? ⟨b, off, none⟩ = some (.int .u8 (x.k : Int)) ∧ w.cell? ⟨b, off + 1, none⟩ = some (.int .u64 (x.n : Int)) ∧ w.cell? ⟨b, off + 2, none⟩ = some (.string (str x.s)) ∧ w.cell? ⟨b, off + 3, none⟩ = some (.int .u8 (x.o : Int)) ∧ w.cell? ⟨b, off + 4, none⟩ = some (.slice ma x.l.length cap) ∧ x.o < 256 ∧ x.l.length ≤ 140737488355328 ∧ KidsAt (fun b => b < w.heap.size) w x.l ma
theorem jXf {w : World} {b : Nat} : ∀ (l : List Xp) (off : Nat), (∀ i (h : i < l.length), KidC w b (off + i * 5) l[i]) → ∀ ma, (0 < l.length → ma = some ⟨b, off, none⟩) → KidsAt (fun b => b < w.heap.size) w l ma
 | [], _, _, ma, _ => .nil
 | x :: r, off, h, ma, hma => by
   obtain ⟨ma', cap, c0, c1, c2, c3, c4, ho, hl, hk⟩ := h 0 (by simp)
   rw [hma (by simp)]
   simp only [Nat.zero_mul, Nat.add_zero, List.getElem_cons_zero] at c0 c1 c2 c3 c4 ho hl hk
   obtain ⟨k, n, s, o, l⟩ := x
   refine .cons (World.block_lt_of_cell? w _ c0) c0 c1 c2 c3 c4 ho hl hk (jXf r (off + 5) (fun i hi => ?_) _ (fun _ => rfl))
   have := h (i + 1) (by simp; omega)
   rw [show off + (i + 1) * 5 = off + 5 + i * 5 by omega] at this
   simpa using this
theorem xJf {H : Type} {P : Program} {e : TypeId} {d : DataW H} : ∀ {l : List (DataW H)}, d ∈ l → ∀ n ∈ d.weights P e, n ∈ DataW.weightsAll P e l
 | x :: r, h, n, hn => by
   rw [DataW.weightsAll]
   rcases List.mem_cons.1 h with rfl | h
   ·exact List.mem_append_left _ hn
   ·exact List.mem_append_right _ (xJf h n hn)
theorem jZl : (Tryz.prog.info? 47).map (fun i => (i.zero, i.size, i.bytes)) = some (some (.agg #[.int .u8 0, .int .u64 0, .string ⟨#[]⟩, .int .u8 0, .slice none 0 0]), 5, 64) := by kernel_rfl
theorem bytesX : Tryz.prog.bytesOf 47 = 64 := by kernel_rfl
structure Kx where
 k : Nat
 n : Nat
 s : List UInt8
 o : Nat
 ma : Option Addr
 m : Nat
 cap : Nat
 x : Xp
def Kx.cells (K : Kx) : List Value := [.int .u8 (K.k : Int), .int .u64 (K.n : Int), .string (str K.s), .int .u8 (K.o : Int), .slice K.ma K.m K.cap]
def Kx.is (G : Nat → Prop) (w : World) (K : Kx) : Prop := IsE G w (.agg #[.int .u8 (K.k : Int), .int .u64 (K.n : Int), .string (str K.s), .int .u8 (K.o : Int), .slice K.ma K.m K.cap]) K.x
def kxs (L : List Kx) : List Value := L.flatMap Kx.cells
theorem jXd (L : List Kx) : (kxs L).length = L.length * 5 := by
 induction L with
 | nil => rfl
 | cons K L ih =>
  show (_ :: _ :: _ :: _ :: _ :: kxs L).length = _
  simp only [List.length_cons, ih]
  omega
theorem yJy (a b : List Kx) : kxs (a ++ b) = kxs a ++ kxs b := by simp [kxs]
theorem yXl (L : List Kx) : ∀ u ∈ kxs L, u.oneCell' = true := by
 intro u hu
 unfold kxs at hu
 obtain ⟨K, _, hp⟩ := List.mem_flatMap.1 hu
 unfold Kx.cells at hp
 simp only [List.mem_cons, List.not_mem_nil, or_false] at hp
 rcases hp with rfl | rfl | rfl | rfl | rfl <;> rfl
theorem kxs_at : ∀ (L : List Kx) (i : Nat) (h : i < L.length) (r : Nat) (hr : r < 5), (kxs L)[i * 5 + r]? = L[i].cells[r]? := by
 intro L
 induction L with
 | nil => intro i h; simp at h
 | cons K L ih =>
  intro i h r hr
  cases i with
  | zero =>
   have hc : r = 0 ∨ r = 1 ∨ r = 2 ∨ r = 3 ∨ r = 4 := by omega
   rcases hc with rfl | rfl | rfl | rfl | rfl <;> rfl
  | succ i =>
   have := ih i (by simpa using h) r hr
   rw [show (i + 1) * 5 + r = (i * 5 + r) + 1 + 1 + 1 + 1 + 1 by omega]
   exact this
theorem kids_row {G : Nat → Prop} {w : World} {b : Nat} : ∀ (l : List Xp) (off : Nat), KidsAt G w l (some ⟨b, off, none⟩) → ∃ R : List Kx, R.map (·.x) = l ∧ (∀ j u, (kxs R)[j]? = some u → w.cell? ⟨b, off + j, none⟩ = some u) ∧ ∀ K ∈ R, K.is G w := by
 intro l
 induction l with
 | nil => intro off _; exact ⟨[], rfl, fun j u h => by simp [kxs] at h, fun K h => by simp at h⟩
 | cons x r ih =>
  intro off hk
  cases hk with
  | @cons k n s o l _ _ _ ma cap hg c0 c1 c2 c3 c4 ho hl hk hr =>
   obtain ⟨R, hR, hc, hi⟩ := ih (off + 5) hr
   refine ⟨⟨k, n, s, o, ma, l.length, cap, .mk k n s o l⟩ :: R, by simp [hR], fun j u hu => ?_, fun K hK => ?_⟩
   ·match j, hu with
    | 0, hu => cases hu; exact c0
    | 1, hu => cases hu; exact c1
    | 2, hu => cases hu; exact c2
    | 3, hu => cases hu; exact c3
    | 4, hu => cases hu; exact c4
    | j + 5, hu =>
     have := hc j u hu
     rw [show off + (j + 5) = off + 5 + j by omega]
     exact this
   ·rcases List.mem_cons.1 hK with rfl | hK
    ·exact IsE.mk ho hl hk
    ·exact hi K hK
theorem kx_of {G : Nat → Prop} {w : World} {K : Kx} (h : K.is G w) : K.m = K.x.l.length ∧ K.m ≤ 140737488355328 ∧ KidsAt G w K.x.l K.ma ∧ K.s = K.x.s := by
 obtain ⟨k, n, s, o, ma, m, cap, x⟩ := K
 unfold Kx.is at h
 generalize hv : (Value.agg #[.int .u8 (k : Int), .int .u64 (n : Int), .string (str s), .int .u8 (o : Int), .slice ma m cap]) = v at h
 cases h with
 | @mk k' n' s' o' l' ma' cap' ho hl hk =>
  simp only [Value.agg.injEq, Array.mk.injEq, List.cons.injEq, Value.int.injEq, Value.string.injEq, Value.slice.injEq, and_true, true_and] at hv
  obtain ⟨_, _, hs, _, rfl, rfl, rfl⟩ := hv
  refine ⟨rfl, hl, hk, ?_⟩
  have := congrArg (fun b : ByteArray => b.data.toList) hs
  simp only [zXj] at this
  exact this
theorem kx_mv {G : Nat → Prop} {w w' : World} {K : Kx} {B : Nat} (h : K.is G w) (hb : Below B w w') (hs : ∀ b, G b → b < B) : K.is G w' := IsE.below h hb hs
theorem kx_all {G : Nat → Prop} {w : World} {K : Kx} (h : K.is G w) : K.x = .mk K.k K.n K.s K.o K.x.l ∧ K.o < 256 ∧ K.m = K.x.l.length ∧ K.m ≤ 140737488355328 ∧ KidsAt G w K.x.l K.ma := by
 obtain ⟨k, n, s, o, ma, m, cap, x⟩ := K
 unfold Kx.is at h
 generalize hv : (Value.agg #[.int .u8 (k : Int), .int .u64 (n : Int), .string (str s), .int .u8 (o : Int), .slice ma m cap]) = v at h
 cases h with
 | @mk k' n' s' o' l' ma' cap' ho hl hk =>
  simp only [Value.agg.injEq, Array.mk.injEq, List.cons.injEq, Value.int.injEq, Value.string.injEq, Value.slice.injEq, and_true, true_and] at hv
  obtain ⟨h1, h2, hs, h3, rfl, rfl, rfl⟩ := hv
  have hs' := congrArg (fun b : ByteArray => b.data.toList) hs
  simp only [zXj] at hs'
  obtain rfl : k = k' := by omega
  obtain rfl : n = n' := by omega
  obtain rfl : o = o' := by omega
  subst hs'
  exact ⟨rfl, ho, rfl, hl, hk⟩
theorem yKa {G : Nat → Prop} {w : World} {b : Nat} (hG : G b) : ∀ (L : List Kx) (off : Nat), (∀ j u, (kxs L)[j]? = some u → w.cell? ⟨b, off + j, none⟩ = some u) → (∀ K ∈ L, K.is G w) → KidsAt G w (L.map (·.x)) (some ⟨b, off, none⟩)
 | [], _, _, _ => .nil
 | K :: r, off, h, hK => by
   obtain ⟨hx, ho, hm, hl, hk⟩ := kx_all (hK K (List.mem_cons_self ..))
   have h0 := h 0 _ rfl
   have h1 := h 1 _ rfl
   have h2 := h 2 _ rfl
   have h3 := h 3 _ rfl
   have h4 := h 4 _ rfl
   rw [List.map_cons, hx]
   rw [hm] at h4 hl
   refine .cons hG h0 h1 h2 h3 h4 ho hl hk (yKa hG r (off + 5) (fun j u hu => ?_) (fun K' h' => hK K' (List.mem_cons_of_mem _ h')))
   have := h (5 + j) u (by rw [show 5 + j = j + 1 + 1 + 1 + 1 + 1 by omega]; exact hu)
   rw [show off + 5 + j = off + (5 + j) by omega]
   exact this
theorem xKo {p : Xp → Bool} {l : List Xp} {k : Nat} (hk : k < l.length) (h : (l.take k).all p = true) (hp : p l[k] = true) : (l.take (k + 1)).all p = true := by
 rw [List.take_succ_eq_append_getElem hk, List.all_append, h]
 simp [hp]
theorem jKf {p : Xp → Bool} {l : List Xp} {k : Nat} (hk : k < l.length) (hp : p l[k] = false) : l.all p = false := by
 rw [Bool.eq_false_iff]
 intro h
 have := List.all_eq_true.1 h l[k] (List.getElem_mem hk)
 rw [hp] at this; cases this
theorem may_any : ∀ (d : Nat) (G : Nat → Prop) (e : Xp) (v : Value) (w : World), d ≤ 1000 → IsE G w v e → Tb w →
 Calls Tryz.prog 156 #[v, .int .i64 (d : Int)] w fun r w' => r = .returned (.bool (mayB d e)) ∧ Below w.heap.size w w' := by
 intro d
 induction d with
 | zero =>
  intro G e v w _ hE hT
  cases hE with
  | mk ho hl hk =>
   rw [show ∀ x, mayB 0 x = false from fun _ => rfl]
   go_enter Tryz.func156, Tryz.ntmps156
   go_wp2
   go_ret
   exact ⟨rfl, aB (Below.refl _ _) _⟩
 | succ d ih =>
  intro G e v w hd hE hT
  cases hE with
  | @mk k n s o l ma cap ho hl hk =>
   have hF := fits_any k n s o ma l.length cap ho
   cases hf : fitB k n s o l.length with
   | false =>
    rw [show mayB (d + 1) (.mk k n s o l) = (fitB k n s o l.length && l.all (mayB d)) from rfl, hf, Bool.false_and]
    rw [hf] at hF
    clear ih
    go_enter Tryz.func156, Tryz.ntmps156
    go_wp2_with (go_at_call 171; ((with_reducible refine (hF _ (hT.alloc _)).mono ?_); (rintro e w1 ⟨rfl, hb⟩)))
    go_ret
    exact ⟨rfl, tr (aB (Below.refl _ _) _) hb⟩
   | true =>
    rw [show mayB (d + 1) (.mk k n s o l) = (fitB k n s o l.length && l.all (mayB d)) from rfl, hf, Bool.true_and]
    rw [hf] at hF
    have HIH := Lib.hid ih
    have hw : IntKind.i64.wrap (((d + 1 : Nat) : Int) - 1) = (d : Int) := by rw [IntKind.wrap_i64]; omega
    have hd0 : (((d + 1 : Nat) : Int) == 0) = false := by simp only [beq_eq_false_iff_ne]; omega
    obtain ⟨D, hD⟩ : ∃ D : Int, D = ((d + 1 : Nat) : Int) := ⟨_, rfl⟩
    rw [← hD] at hw hd0 ⊢
    have HK := Lib.hid hk
    obtain ⟨N, hN⟩ : ∃ N, N = l.length := ⟨_, rfl⟩
    rw [← hN] at hF hl ⊢
    have HN := Lib.hid hN
    clear ih hD hk hf hN
    go_enter Tryz.func156, Tryz.ntmps156
    go_wp2_with (go_at_call 171; ((with_reducible refine (hF _ (hT.alloc _)).mono ?_); (rintro e w1 ⟨rfl, hb⟩); obtain ⟨hc, hf⟩ := zKn hb; have hz := hz1 hb))
    clear hF
    have hB1 : Below w.heap.size w w1 := tr (aB (Below.refl _ _) _) hb
    clear hb hc hf
    go_loopw [17] (fun i wr => ∃ k : Nat, k ≤ N ∧ i = .int .i64 (k : Int) ∧ Hid ((l.take k).all (mayB d) = true) ∧ Below w.heap.size w wr) (fun i _ => N - (intOf i).toNat)
    case atStart => exact ⟨0, Nat.zero_le _, rfl, Lib.hid (by simp), hB1⟩
    case round =>
     obtain ⟨j, hj, rfl, hall, hB⟩ := hrel
     by_cases hlt : j < N
     ·have hlt' : j < l.length := by rw [← HN.out]; exact hlt
      obtain ⟨b, off, rfl⟩ := zXb HK.out (by omega)
      obtain ⟨ma', cap', c0, c1, c2, c3, c4, hE'⟩ := (zKk l b off HK.out j hlt').isE
      have hbl := World.block_lt_of_cell? w _ c0
      have q0 := stay hB c0
      have q1 := stay hB c1
      have q2 := stay hB c2
      have q3 := stay hB c3
      have q4 := stay hB c4
      have hbl' : b < wr.heap.size := Nat.lt_of_lt_of_le hbl hB.size
      have hI := HIH.out G l[j] _ (wr.alloc (.cells #[.int .u8 (l[j].k : Int), .int .u64 (l[j].n : Int), .string (str l[j].s), .int .u8 (l[j].o : Int), .slice ma' l[j].l.length cap'] 47)) (by omega) ((hE'.of hB).of (aB (Below.refl _ _) _)) ((hT.of hB).alloc _)
      clear hE' c0 c1 c2 c3 c4
      cases hp : mayB d l[j] with
      | false =>
       rw [hp] at hI
       have hA := Lib.hid (jKf hlt' hp)
       clear hp
       go_wp2_with (go_at_call 156; ((with_reducible refine hI.mono ?_); (rintro e w2 ⟨rfl, hb2⟩)))
       go_ret
       exact ⟨by rw [hA.out]; rfl, tr (aB hB _) hb2⟩
      | true =>
       rw [hp] at hI
       have hA := Lib.hid (xKo hlt' hall.out hp)
       clear hp
       go_wp2_with (go_at_call 156; ((with_reducible refine hI.mono ?_); (rintro e w2 ⟨rfl, hb2⟩)))
       go_roundw
       case rel => exact ⟨j + 1, by omega, by go_num, hA, tr (aB hB _) hb2⟩
       case measure => simp [intOf]; omega
     ·obtain rfl : j = N := by omega
      have hA := Lib.hid hall.out
      go_wp2
      go_ret
      exact ⟨by rw [← hA.out, List.take_of_length_le (by rw [HN.out]; exact Nat.le_refl _)]; rfl, hB⟩
theorem xXx (G : Nat → Prop) (e : Xp) (v : Value) (w : World) (hE : IsE G w v e) (hT : Tb w) :
 Calls Tryz.prog 129 #[v] w fun r w' => r = .returned (.int .i64 (if mayB 40 e = true then 0 else 2)) ∧ Below w.heap.size w w' := by
 have hM : ∀ o, Calls Tryz.prog 156 #[v, .int .i64 40] (w.alloc o) fun r w' => r = .returned (.bool (mayB 40 e)) ∧ Below (w.alloc o).heap.size (w.alloc o) w' := fun o => may_any 40 G e v (w.alloc o) (by omega) (hE.of (aB (Below.refl _ _) _)) (hT.alloc _)
 cases hE with
 | @mk k n s o l ma cap ho hl hk =>
  generalize mayB 40 (.mk k n s o l) = c at hM
  clear hk
  cases c
  ·go_enter Tryz.func129, Tryz.ntmps129
   go_wp2_with (go_at_call 156; ((with_reducible refine (hM _).mono ?_); (rintro e w1 ⟨rfl, hb⟩)))
   go_ret
   exact ⟨rfl, tr (aB (Below.refl _ _) _) hb⟩
  ·go_enter Tryz.func129, Tryz.ntmps129
   go_wp2_with (go_at_call 156; ((with_reducible refine (hM _).mono ?_); (rintro e w1 ⟨rfl, hb⟩)))
   go_ret
   exact ⟨rfl, tr (aB (Below.refl _ _) _) hb⟩
end Go.Proofs.YtfbjljcmmbdhkaaGreatDoor
