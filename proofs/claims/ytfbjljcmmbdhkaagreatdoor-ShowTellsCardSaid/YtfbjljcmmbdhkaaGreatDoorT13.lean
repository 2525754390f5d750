/- The reader of programs in memory; its smallest parts. -/
import Derived.Test.YtfbjljcmmbdhkaaGreatDoorT11
import Derived.Test.YtfbjljcmmbdhkaaGreatDoorT04
import Derived.WalkSmall
import Derived.Deep.MidRow
namespace Go.Proofs.YtfbjljcmmbdhkaaGreatDoor
set_option linter.unusedVariables false
set_option linter.unusedSimpArgs false
set_option maxRecDepth 100000
set_option maxHeartbeats 200000000
section
open Go.ChangeShapes Go.WideShapes Go.ChangeAt Go.RowKit
def readsM : Array MapEntry := #[⟨.string (str wLet), .func (.func 101) #[] #[], 0⟩, ⟨.string (str wBuf), .func (.func 102) #[] #[], 1⟩, ⟨.string (str wIf), .func (.func 103) #[] #[], 2⟩, ⟨.string (str wWhile), .func (.func 104) #[] #[], 3⟩, ⟨.string (str wFor), .func (.func 105) #[] #[], 4⟩, ⟨.string (str wView), .func (.func 106) #[] #[], 5⟩, ⟨.string (str wEdit), .func (.func 107) #[] #[], 6⟩, ⟨.string (str wMove), .func (.func 108) #[] #[], 7⟩, ⟨.string (str wOpen), .func (.func 109) #[] #[], 8⟩, ⟨.string (str wCall), .func (.func 110) #[] #[], 9⟩, ⟨.string (str wSeal), .func (.func 111) #[] #[], 10⟩]
structure IsRs (w : World) (rb mb : Nat) (v : Value) (T : List (Tk × Int)) (p d n : Nat) : Prop where
 c0 : w.cell? ⟨rb, 0, none⟩ = some v
 c1 : w.cell? ⟨rb, 1, none⟩ = some (.int .i64 (p : Int))
 c2 : w.cell? ⟨rb, 2, none⟩ = some (.map (some mb))
 c3 : w.cell? ⟨rb, 3, none⟩ = some (.int .i64 (d : Int))
 c4 : w.cell? ⟨rb, 4, none⟩ = some (.int .i64 (n : Int))
 f : ∀ k, w.frozen? ⟨rb, k, none⟩ = false
 row : RowZ w v T
 ne : ¬ ob v T = some rb
 mp : w.heap[mb]? = some (.map readsM 11)
 nm : ¬ mb = rb
 len : T.length ≤ 16385
 lt : p < T.length
 fin : ∃ a, T[T.length - 1]? = some (⟨5, [], 0⟩, a)
 hd : d ≤ 41
 hn : n ≤ 400
 ng : ¬ GB rb
 tb : Tb w
section
variable {w w' : World} {rb mb : Nat} {v : Value} {T : List (Tk × Int)} {p d n : Nat}
theorem IsRs.rl (h : IsRs w rb mb v T p d n) : rb < w.heap.size := World.block_lt_of_cell? w _ h.c0
theorem IsRs.ml (h : IsRs w rb mb v T p d n) : mb < w.heap.size := by
 rcases Nat.lt_or_ge mb w.heap.size with hh | hh
 ·exact hh
 ·have := h.mp; rw [Array.getElem?_eq_none hh] at this; cases this
theorem IsRs.only {S : Nat → Prop} (h : IsRs w rb mb v T p d n) (ho : Only S w w') (h1 : ¬ S rb) (h2 : ∀ j, ob v T = some j → ¬ S j) (h3 : ¬ S mb) (h4 : ∀ j, GB j → ¬ S j) : IsRs w' rb mb v T p d n :=
 { h with c0 := ho.cell h1 h.c0, c1 := ho.cell h1 h.c1, c2 := ho.cell h1 h.c2, c3 := ho.cell h1 h.c3, c4 := ho.cell h1 h.c4, f := (fun k => ((ho.frozen (a := ⟨rb, k, none⟩) h.rl h1).trans (h.f k))), row := h.row.onlyo ho h2, mp := (ho.block mb h.ml h3).trans h.mp, tb := h.tb.only ho h4 }
theorem IsRs.of (h : IsRs w rb mb v T p d n) (hb : Below w.heap.size w w') : IsRs w' rb mb v T p d n :=
 h.only (S := fun _ => False) (only_below hb) (fun h => h) (fun _ _ h => h) (fun h => h) (fun _ _ h => h)
theorem IsRs.drewN (h : IsRs w rb mb v T p d n) (k : Nat) : IsRs (w.drewN k) rb mb v T p d n := h.of (bdN (Below.refl _ _) k)
theorem IsRs.set (h : IsRs w rb mb v T p d n) {o : Nat} {x : Value} {p' d' n' : Nat} (c0 : ¬ o = 0) (c1 : (w.setCell ⟨rb, o, none⟩ x).cell? ⟨rb, 1, none⟩ = some (.int .i64 (p' : Int))) (c2 : ¬ o = 2) (c3 : (w.setCell ⟨rb, o, none⟩ x).cell? ⟨rb, 3, none⟩ = some (.int .i64 (d' : Int))) (c4 : (w.setCell ⟨rb, o, none⟩ x).cell? ⟨rb, 4, none⟩ = some (.int .i64 (n' : Int)))
 (lt : p' < T.length) (hd : d' ≤ 41) (hn : n' ≤ 400) : IsRs (w.setCell ⟨rb, o, none⟩ x) rb mb v T p' d' n' :=
 have ho := only_one w rb o x
 { c0 := cset h.c0 (fun e => c0 e.symm), c1 := c1, c2 := cset h.c2 (fun e => c2 e.symm), c3 := c3, c4 := c4, f := (fun k => by rw [World.frozen?_setCell]; exact h.f k), row := h.row.onlyo ho (fun j hj e => h.ne (by rw [hj, e])), ne := h.ne, mp := (ho.block mb h.ml h.nm).trans h.mp, nm := h.nm, len := h.len, lt := lt, fin := h.fin, hd := hd, hn := hn, ng := h.ng, tb := h.tb.only ho (fun j hj (e : j = rb) => h.ng (by rw [← e]; exact hj)) }
structure TokAt (w : World) (rb : Nat) (T : List (Tk × Int)) (p : Nat) (t : Tk) (z : Int) : Prop where
 at_ : ∃ (b o N c : Nat), w.cell? ⟨rb, 0, none⟩ = some (.slice (some ⟨b, o, none⟩) N c) ∧ p < N ∧ N ≤ 16385 ∧ b < w.heap.size ∧ w.cell? ⟨b, o + p * 4, none⟩ = some (.int .u8 (t.k : Int)) ∧ w.cell? ⟨b, o + p * 4 + 1, none⟩ = some (.string (str t.t)) ∧ w.cell? ⟨b, o + p * 4 + 2, none⟩ = some (.int .u64 (t.n : Int)) ∧ w.cell? ⟨b, o + p * 4 + 3, none⟩ = some (.int .i64 z)
 txt_ : txt (bareZ T) p = t.t
 knd_ : knd (bareZ T) p = t.k
 plc_ : placeZ T (p : Int) = z
theorem IsRs.tok (h : IsRs w rb mb v T p d n) : ∃ t z, TokAt w rb T p t z := by
 obtain ⟨ma, c, hv, hc⟩ := h.row.row
 obtain ⟨b, o, rfl, hl, q0, q1, q2, q3⟩ := hc p h.lt
 have c0 := h.c0
 rw [hv] at c0
 have hlt := h.lt
 have hb : (bareZ T).getD p t0 = T[p].1 := by
  unfold bareZ
  rw [List.getD_eq_getElem?_getD, List.getElem?_map, List.getElem?_eq_getElem h.lt]
  rfl
 refine ⟨T[p].1, T[p].2, ⟨⟨b, o, T.length, c, c0, h.lt, h.len, hl, q0, q1, q2, q3⟩, by unfold txt; rw [hb], by unfold knd; rw [hb], ?_⟩⟩
 unfold placeZ
 rw [if_neg (by omega), Int.toNat_natCast, Nat.min_eq_left (by have := h.lt; omega), List.getD_eq_getElem?_getD, List.getElem?_eq_getElem h.lt]
 rfl
theorem IsRs.more (h : IsRs w rb mb v T p d n) (hh : txt (bareZ T) p ≠ [] ∨ knd (bareZ T) p ≠ 5) : p + 1 < T.length := by
 rcases Nat.lt_or_ge (p + 1) T.length with h1 | h1
 ·exact h1
 ·exfalso
  obtain ⟨a, ha⟩ := h.fin
  have hp : p = T.length - 1 := by have := h.lt; omega
  have hb : (bareZ T).getD p t0 = ⟨5, [], 0⟩ := by
   unfold bareZ
   rw [List.getD_eq_getElem?_getD, List.getElem?_map, hp, ha]
   rfl
  rcases hh with hh | hh
  ·exact hh (by unfold txt; rw [hb])
  ·exact hh (by unfold knd; rw [hb])
end
def Flt (T : List (Tk × Int)) (e p : Nat) : Ending := .panicked [{ v := .iface 115 (.agg #[.int .i64 (placeZ T (p : Int)), .int .i64 (e : Int)]), recovered := false }]
def RP {α : Type} (V : World → World → Value → α → Prop) (w : World) (rb mb : Nat) (v : Value) (T : List (Tk × Int)) (d : Nat) (r : Rz α) (e : Ending) (w' : World) : Prop :=
 Only (fun j => j = rb) w w' ∧ match r with
  | .er c q => e = Flt T c q
  | .ok x q m => IsRs w' rb mb v T q d m ∧ ∃ u, e = .returned u ∧ V w w' u x
theorem RP.er {α : Type} {V : World → World → Value → α → Prop} {w : World} {rb mb : Nat} {v : Value} {T : List (Tk × Int)} {d : Nat} {c q : Nat} {w' : World} (h : Only (fun j => j = rb) w w') : RP V w rb mb v T d (.er c q : Rz α) (Flt T c q) w' := ⟨h, rfl⟩
theorem RP.ok {α : Type} {V : World → World → Value → α → Prop} {w : World} {rb mb : Nat} {v : Value} {T : List (Tk × Int)} {d : Nat} {x : α} {q m : Nat} {u : Value} {w' : World} (h : Only (fun j => j = rb) w w') (h1 : IsRs w' rb mb v T q d m) (h2 : V w w' u x) : RP V w rb mb v T d (.ok x q m) (.returned u) w' := ⟨h, h1, u, rfl, h2⟩
def VU (w w' : World) (u : Value) (_ : Unit) : Prop := u = .tuple #[]
def VN (w w' : World) (u : Value) (x : List UInt8) : Prop := u = .string (str x)
theorem os1 {b : Nat} {w w' : World} (h : Only (fun j => j = b) w w') (o : Nat) (x : Value) : Only (fun j => j = b) w (w'.setCell ⟨b, o, none⟩ x) := h.setCell (S := fun j => j = b) (b := b) rfl
theorem or1 (b : Nat) (w : World) : Only (fun j => j = b) w w := Only.refl _ w
theorem row_set {C : Array Value} {w : World} {k i : Nat} (hi : i < C.size) (u : Value) (h : rowG C w k) : rowG (C.set! i u) (w.setCell ⟨k, i, none⟩ u) k := by
 refine ⟨fun j hj => ?_, fun j => by rw [World.frozen?_setCell]; exact h.2.1 j, by rw [World.size_setCell]; exact h.2.2⟩
 have hj' : j < C.size := by simpa using hj
 by_cases e : j = i
 ·subst e
  rw [cset_same (u := C[j]) (by rw [h.1 j hj']; simp [hj'])]
  simp [hj']
 ·rw [World.cell?_setCell_other (h := by intro h; injection h with _ h2 _; exact e h2.symm), h.1 j hj']
  simp [Ne.symm e]
theorem bdd {w w1 : World} (h : Below w.heap.size w w1) : Below w.heap.size w w1.drew := bdN h 1
end
section
open Go.ChangeShapes Go.WideShapes Go.ChangeAt Go.RowKit
def StrsAt (G : Nat → Prop) (w : World) (l : List (List UInt8)) (ma : Option Addr) : Prop := ∀ i (h : i < l.length), ∃ b o, ma = some ⟨b, o, none⟩ ∧ G b ∧ w.cell? ⟨b, o + i, none⟩ = some (.string (str l[i]))
theorem StrsAt.mv {G G' : Nat → Prop} {w w' : World} {l : List (List UInt8)} {ma : Option Addr} (h : StrsAt G w l ma) (hg : ∀ b, G b → G' b) (hc : ∀ b o v, G b → w.cell? ⟨b, o, none⟩ = some v → w'.cell? ⟨b, o, none⟩ = some v) : StrsAt G' w' l ma := fun i hi => by
 obtain ⟨b, o, e, hb, h1⟩ := h i hi
 exact ⟨b, o, e, hg _ hb, hc _ _ _ hb h1⟩
theorem StrsAt.nil {G : Nat → Prop} {w : World} {ma : Option Addr} : StrsAt G w [] ma := fun i h => by simp at h
inductive StsAt (G : Nat → Prop) (w : World) : List St → Option Addr → Prop
 | nil {ma : Option Addr} : StsAt G w [] ma
 | cons {k : Nat} {nm fr : List UInt8} {sec mu : Bool} {ex : List Xp} {ar : List (List UInt8)} {bd el r : List St} {b off : Nat} {mx ma mb ml : Option Addr} {cx ca cb cl : Nat} (hg : G b)
    (c0 : w.cell? ⟨b, off, none⟩ = some (.int .u8 (k : Int))) (c1 : w.cell? ⟨b, off + 1, none⟩ = some (.string (str nm))) (c2 : w.cell? ⟨b, off + 2, none⟩ = some (.string (str fr))) (c3 : w.cell? ⟨b, off + 3, none⟩ = some (.bool sec)) (c4 : w.cell? ⟨b, off + 4, none⟩ = some (.bool mu))
    (c5 : w.cell? ⟨b, off + 5, none⟩ = some (.slice mx ex.length cx)) (c6 : w.cell? ⟨b, off + 6, none⟩ = some (.slice ma ar.length ca)) (c7 : w.cell? ⟨b, off + 7, none⟩ = some (.slice mb bd.length cb)) (c8 : w.cell? ⟨b, off + 8, none⟩ = some (.slice ml el.length cl))
    (hk : k < 256) (hx : ex.length ≤ 140737488355328) (ha : ar.length ≤ 140737488355328) (hb : bd.length ≤ 140737488355328) (hl : el.length ≤ 140737488355328)
    (hX : KidsAt G w ex mx) (hA : StrsAt G w ar ma) (hB : StsAt G w bd mb) (hL : StsAt G w el ml) (hr : StsAt G w r (some ⟨b, off + 9, none⟩)) : StsAt G w (.mk k nm fr sec mu ex ar bd el :: r) (some ⟨b, off, none⟩)
theorem StsAt.mv {G G' : Nat → Prop} {w w' : World} {l : List St} {ma : Option Addr} (h : StsAt G w l ma) (hg : ∀ b, G b → G' b) (hc : ∀ b o v, G b → w.cell? ⟨b, o, none⟩ = some v → w'.cell? ⟨b, o, none⟩ = some v) : StsAt G' w' l ma := by
 induction h with
 | nil => exact .nil
 | cons h1 c0 c1 c2 c3 c4 c5 c6 c7 c8 hk hx ha hb hl hX hA _ _ _ iB iL ir => exact .cons (hg _ h1) (hc _ _ _ h1 c0) (hc _ _ _ h1 c1) (hc _ _ _ h1 c2) (hc _ _ _ h1 c3) (hc _ _ _ h1 c4) (hc _ _ _ h1 c5) (hc _ _ _ h1 c6) (hc _ _ _ h1 c7) (hc _ _ _ h1 c8) hk hx ha hb hl (hX.mv hg hc) (hA.mv hg hc) iB iL ir
inductive IsSt (G : Nat → Prop) (w : World) : Value → St → Prop
 | mk {k : Nat} {nm fr : List UInt8} {sec mu : Bool} {ex : List Xp} {ar : List (List UInt8)} {bd el : List St} {mx ma mb ml : Option Addr} {cx ca cb cl : Nat}
    (hk : k < 256) (hx : ex.length ≤ 140737488355328) (ha : ar.length ≤ 140737488355328) (hb : bd.length ≤ 140737488355328) (hl : el.length ≤ 140737488355328)
    (hX : KidsAt G w ex mx) (hA : StrsAt G w ar ma) (hB : StsAt G w bd mb) (hL : StsAt G w el ml) :
    IsSt G w (.agg #[.int .u8 (k : Int), .string (str nm), .string (str fr), .bool sec, .bool mu, .slice mx ex.length cx, .slice ma ar.length ca, .slice mb bd.length cb, .slice ml el.length cl]) (.mk k nm fr sec mu ex ar bd el)
theorem IsSt.mv {G G' : Nat → Prop} {w w' : World} {v : Value} {x : St} (h : IsSt G w v x) (hg : ∀ b, G b → G' b) (hc : ∀ b o v, G b → w.cell? ⟨b, o, none⟩ = some v → w'.cell? ⟨b, o, none⟩ = some v) : IsSt G' w' v x := by
 cases h with
 | mk hk hx ha hb hl hX hA hB hL => exact .mk hk hx ha hb hl (hX.mv hg hc) (hA.mv hg hc) (hB.mv hg hc) (hL.mv hg hc)
theorem IsSt.of {G : Nat → Prop} {w w' : World} {v : Value} {x : St} (h : IsSt G w v x) (hb : Below w.heap.size w w') : IsSt G w' v x := h.mv (fun _ h => h) (fun b o v _ hc => stay hb hc)
theorem IsSt.only {G S : Nat → Prop} {w w' : World} {v : Value} {x : St} (h : IsSt G w v x) (ho : Only S w w') (hs : ∀ b, G b → ¬ S b) : IsSt G w' v x := h.mv (fun _ h => h) (fun b o v hg hc => ho.cell (hs b hg) hc)
theorem IsSt.mono {G G' : Nat → Prop} {w : World} {v : Value} {x : St} (h : IsSt G w v x) (hg : ∀ b, G b → G' b) : IsSt G' w v x := h.mv hg (fun _ _ _ _ h => h)
theorem KidsAt.of {G : Nat → Prop} {w w' : World} {l : List Xp} {ma : Option Addr} (h : KidsAt G w l ma) (hb : Below w.heap.size w w') : KidsAt G w' l ma := h.mv (fun _ h => h) (fun b o v _ hc => stay hb hc)
theorem KidsAt.only {G S : Nat → Prop} {w w' : World} {l : List Xp} {ma : Option Addr} (h : KidsAt G w l ma) (ho : Only S w w') (hs : ∀ b, G b → ¬ S b) : KidsAt G w' l ma := h.mv (fun _ h => h) (fun b o v hg hc => ho.cell (hs b hg) hc)
theorem KidsAt.mono {G G' : Nat → Prop} {w : World} {l : List Xp} {ma : Option Addr} (h : KidsAt G w l ma) (hg : ∀ b, G b → G' b) : KidsAt G' w l ma := h.mv hg (fun _ _ _ _ h => h)
theorem StrsAt.of {G : Nat → Prop} {w w' : World} {l : List (List UInt8)} {ma : Option Addr} (h : StrsAt G w l ma) (hb : Below w.heap.size w w') : StrsAt G w' l ma := h.mv (fun _ h => h) (fun b o v _ hc => stay hb hc)
theorem StrsAt.only {G S : Nat → Prop} {w w' : World} {l : List (List UInt8)} {ma : Option Addr} (h : StrsAt G w l ma) (ho : Only S w w') (hs : ∀ b, G b → ¬ S b) : StrsAt G w' l ma := h.mv (fun _ h => h) (fun b o v hg hc => ho.cell (hs b hg) hc)
theorem StrsAt.mono {G G' : Nat → Prop} {w : World} {l : List (List UInt8)} {ma : Option Addr} (h : StrsAt G w l ma) (hg : ∀ b, G b → G' b) : StrsAt G' w l ma := h.mv hg (fun _ _ _ _ h => h)
theorem StsAt.of {G : Nat → Prop} {w w' : World} {l : List St} {ma : Option Addr} (h : StsAt G w l ma) (hb : Below w.heap.size w w') : StsAt G w' l ma := h.mv (fun _ h => h) (fun b o v _ hc => stay hb hc)
theorem StsAt.only {G S : Nat → Prop} {w w' : World} {l : List St} {ma : Option Addr} (h : StsAt G w l ma) (ho : Only S w w') (hs : ∀ b, G b → ¬ S b) : StsAt G w' l ma := h.mv (fun _ h => h) (fun b o v hg hc => ho.cell (hs b hg) hc)
theorem StsAt.mono {G G' : Nat → Prop} {w : World} {l : List St} {ma : Option Addr} (h : StsAt G w l ma) (hg : ∀ b, G b → G' b) : StsAt G' w l ma := h.mv hg (fun _ _ _ _ h => h)
structure Sx where
 k : Nat
 nm : List UInt8
 fr : List UInt8
 sec : Bool
 mu : Bool
 mx : Option Addr
 nx : Nat
 cx : Nat
 ma : Option Addr
 na : Nat
 ca : Nat
 mb : Option Addr
 nb : Nat
 cb : Nat
 ml : Option Addr
 nl : Nat
 cl : Nat
 x : St
def Sx.cells (K : Sx) : List Value := [.int .u8 (K.k : Int), .string (str K.nm), .string (str K.fr), .bool K.sec, .bool K.mu, .slice K.mx K.nx K.cx, .slice K.ma K.na K.ca, .slice K.mb K.nb K.cb, .slice K.ml K.nl K.cl]
def Sx.is (G : Nat → Prop) (w : World) (K : Sx) : Prop := IsSt G w (.agg #[.int .u8 (K.k : Int), .string (str K.nm), .string (str K.fr), .bool K.sec, .bool K.mu, .slice K.mx K.nx K.cx, .slice K.ma K.na K.ca, .slice K.mb K.nb K.cb, .slice K.ml K.nl K.cl]) K.x
def sxs (L : List Sx) : List Value := L.flatMap Sx.cells
theorem sxs_len (L : List Sx) : (sxs L).length = L.length * 9 := by
 induction L with
 | nil => rfl
 | cons K L ih =>
  show (_ :: _ :: _ :: _ :: _ :: _ :: _ :: _ :: _ :: sxs L).length = _
  simp only [List.length_cons, ih]
  omega
theorem sxs_app (a b : List Sx) : sxs (a ++ b) = sxs a ++ sxs b := by simp [sxs]
theorem sxs_one (L : List Sx) : ∀ u ∈ sxs L, u.oneCell' = true := by
 intro u hu
 unfold sxs at hu
 obtain ⟨K, _, hp⟩ := List.mem_flatMap.1 hu
 unfold Sx.cells at hp
 simp only [List.mem_cons, List.not_mem_nil, or_false] at hp
 rcases hp with rfl | rfl | rfl | rfl | rfl | rfl | rfl | rfl | rfl <;> rfl
theorem st_form {G : Nat → Prop} {w : World} {v : Value} {x : St} (h : IsSt G w v x) : ∃ K : Sx, v = .agg #[.int .u8 (K.k : Int), .string (str K.nm), .string (str K.fr), .bool K.sec, .bool K.mu, .slice K.mx K.nx K.cx, .slice K.ma K.na K.ca, .slice K.mb K.nb K.cb, .slice K.ml K.nl K.cl] ∧ K.x = x ∧ x = .mk K.k K.nm K.fr K.sec K.mu x.ex x.ar x.bd x.el ∧ K.k < 256 ∧ K.nx = x.ex.length ∧ K.na = x.ar.length ∧ K.nb = x.bd.length ∧ K.nl = x.el.length ∧ K.nx ≤ 140737488355328 ∧ K.na ≤ 140737488355328 ∧ K.nb ≤ 140737488355328 ∧ K.nl ≤ 140737488355328 ∧ KidsAt G w x.ex K.mx ∧ StrsAt G w x.ar K.ma ∧ StsAt G w x.bd K.mb ∧ StsAt G w x.el K.ml := by
 cases h with
 | @mk k nm fr sec mu ex ar bd el mx ma mb ml cx ca cb cl hk hx ha hb hl hX hA hB hL =>
  exact ⟨⟨k, nm, fr, sec, mu, mx, ex.length, cx, ma, ar.length, ca, mb, bd.length, cb, ml, el.length, cl, .mk k nm fr sec mu ex ar bd el⟩, rfl, rfl, rfl, hk, rfl, rfl, rfl, rfl, hx, ha, hb, hl, hX, hA, hB, hL⟩
theorem sx_inj {K K' : Sx} (h : (.agg #[.int .u8 (K.k : Int), .string (str K.nm), .string (str K.fr), .bool K.sec, .bool K.mu, .slice K.mx K.nx K.cx, .slice K.ma K.na K.ca, .slice K.mb K.nb K.cb, .slice K.ml K.nl K.cl] : Value) = .agg #[.int .u8 (K'.k : Int), .string (str K'.nm), .string (str K'.fr), .bool K'.sec, .bool K'.mu, .slice K'.mx K'.nx K'.cx, .slice K'.ma K'.na K'.ca, .slice K'.mb K'.nb K'.cb, .slice K'.ml K'.nl K'.cl]) (hx : K.x = K'.x) : K = K' := by
 obtain ⟨k, nm, fr, sec, mu, mx, nx, cx, ma, na, ca, mb, nb, cb, ml, nl, cl, x⟩ := K
 obtain ⟨k', nm', fr', sec', mu', mx', nx', cx', ma', na', ca', mb', nb', cb', ml', nl', cl', x'⟩ := K'
 simp only [Value.agg.injEq, Array.mk.injEq, List.cons.injEq, Value.int.injEq, Value.string.injEq, Value.bool.injEq, Value.slice.injEq, and_true, true_and] at h
 obtain ⟨h0, h1, h2, rfl, rfl, ⟨rfl, rfl, rfl⟩, ⟨rfl, rfl, rfl⟩, ⟨rfl, rfl, rfl⟩, rfl, rfl, rfl⟩ := h
 have e1 := congrArg (fun b : ByteArray => b.data.toList) h1
 have e2 := congrArg (fun b : ByteArray => b.data.toList) h2
 simp only [str_list] at e1 e2
 obtain rfl : k = k' := by omega
 subst e1 e2
 simp only at hx
 subst hx
 rfl
theorem sx_all {G : Nat → Prop} {w : World} {K : Sx} (h : K.is G w) : K.x = .mk K.k K.nm K.fr K.sec K.mu K.x.ex K.x.ar K.x.bd K.x.el ∧ K.k < 256 ∧ K.nx = K.x.ex.length ∧ K.na = K.x.ar.length ∧ K.nb = K.x.bd.length ∧ K.nl = K.x.el.length ∧ K.nx ≤ 140737488355328 ∧ K.na ≤ 140737488355328 ∧ K.nb ≤ 140737488355328 ∧ K.nl ≤ 140737488355328 ∧ KidsAt G w K.x.ex K.mx ∧ StrsAt G w K.x.ar K.ma ∧ StsAt G w K.x.bd K.mb ∧ StsAt G w K.x.el K.ml := by
 obtain ⟨K', hv, hx, h2⟩ := st_form h
 obtain rfl := sx_inj hv hx.symm
 exact h2
theorem sts_of_row {G : Nat → Prop} {w : World} {b : Nat} (hG : G b) : ∀ (L : List Sx) (off : Nat), (∀ j u, (sxs L)[j]? = some u → w.cell? ⟨b, off + j, none⟩ = some u) → (∀ K ∈ L, K.is G w) → StsAt G w (L.map (·.x)) (some ⟨b, off, none⟩)
 | [], _, _, _ => .nil
 | K :: r, off, h, hK => by
   obtain ⟨hx, hk, e1, e2, e3, e4, l1, l2, l3, l4, k1, k2, k3, k4⟩ := sx_all (hK K (List.mem_cons_self ..))
   have h0 := h 0 _ rfl
   have h1 := h 1 _ rfl
   have h2 := h 2 _ rfl
   have h3 := h 3 _ rfl
   have h4 := h 4 _ rfl
   have h5 := h 5 _ rfl
   have h6 := h 6 _ rfl
   have h7 := h 7 _ rfl
   have h8 := h 8 _ rfl
   rw [List.map_cons, hx]
   rw [e1] at h5 l1
   rw [e2] at h6 l2
   rw [e3] at h7 l3
   rw [e4] at h8 l4
   refine .cons hG h0 h1 h2 h3 h4 h5 h6 h7 h8 hk l1 l2 l3 l4 k1 k2 k3 k4 (sts_of_row hG r (off + 9) (fun j u hu => ?_) (fun K' h' => hK K' (List.mem_cons_of_mem _ h')))
   have := h (9 + j) u (by rw [show 9 + j = j + 1 + 1 + 1 + 1 + 1 + 1 + 1 + 1 + 1 by omega]; exact hu)
   rw [show off + 9 + j = off + (9 + j) by omega]
   exact this
theorem sx_append {g H : Nat} {w w5 : World} {lv : Value} (hg : w.grownBy w5 lv.ownBlock) (hat : lv.ownBlock = some g ∨ g = H) (hH : w.heap.size = H) {B : Nat} (L : List Sx)
 (h : ∀ K ∈ L, K.is (fun b => B ≤ b ∧ b < w.heap.size ∧ ¬ lv.ownBlock = some b) w) (n cap : Nat) :
 ∀ K ∈ L, K.is (fun b => B ≤ b ∧ b < w5.heap.size ∧ ¬ (Value.slice (some ⟨g, 0, none⟩) n cap).ownBlock = some b) w5 := by
 intro K hK
 have ho := only_grown hg
 refine (IsSt.only (h K hK) ho (fun b hb e => hb.2.2 e.symm)).mono (fun b hb => ⟨hb.1, Nat.lt_of_lt_of_le hb.2.1 ho.size, fun e => ?_⟩)
 simp only [Value.ownBlock, Option.some.injEq] at e
 subst e
 rcases hat with h1 | h1
 ·exact hb.2.2 h1
 ·omega
theorem row_sts {w : World} {B M : Nat} {lv : Value} {L : List Sx} (h : w.ownsRow B 52 9 lv M (sxs L)) (hM : M = L.length) (hK : ∀ K ∈ L, K.is (fun b => B ≤ b ∧ b < w.heap.size ∧ ¬ lv.ownBlock = some b) w) :
 ∃ ma cap, lv = .slice ma M cap ∧ StsAt (fun b => B ≤ b ∧ b < w.heap.size) w (L.map (·.x)) ma := by
 by_cases h0 : M = 0
 ·obtain rfl : L = [] := List.length_eq_zero_iff.1 (by omega)
  rcases h.2 with ⟨hv, _⟩ | ⟨g, cap, cur, hv, hb, hg, _⟩
  ·exact ⟨none, 0, by rw [hv, h0], .nil⟩
  ·exact ⟨_, _, hv, .nil⟩
 ·obtain ⟨g, cg, rfl, hg1, hg2⟩ := h.form (by omega)
  refine ⟨_, _, rfl, sts_of_row ⟨hg1, hg2⟩ L 0 (fun j u hu => ?_) (fun K hk => IsSt.mono (hK K hk) (fun b hb => ⟨hb.1, hb.2.1⟩))⟩
  rw [Nat.zero_add]
  obtain ⟨hj, _⟩ := List.getElem?_eq_some_iff.1 hu
  rw [sxs_len] at hj
  exact (h.cellAt j (by omega)).trans hu
def VS (w w' : World) (u : Value) (x : St) : Prop := IsSt (fun b => w.heap.size ≤ b ∧ b < w'.heap.size) w' u x
def VB (w w' : World) (u : Value) (l : List St) : Prop := ∃ ma cap, u = .slice ma l.length cap ∧ l.length ≤ 140737488355328 ∧ StsAt (fun b => w.heap.size ≤ b ∧ b < w'.heap.size) w' l ma
def VXs (w w' : World) (u : Value) (l : List Xp) : Prop := ∃ ma cap, u = .slice ma l.length cap ∧ l.length ≤ 140737488355328 ∧ KidsAt (fun b => w.heap.size ≤ b ∧ b < w'.heap.size) w' l ma
def VA (w w' : World) (u : Value) (l : List (List UInt8)) : Prop := ∃ ma cap, u = .slice ma l.length cap ∧ l.length ≤ 140737488355328 ∧ StrsAt (fun b => w.heap.size ≤ b ∧ b < w'.heap.size) w' l ma
def BlkC (rb mb : Nat) (v : Value) (T : List (Tk × Int)) (d : Nat) (blk : Nat → Nat → Rz (List St)) : Prop := ∀ {W : World} {p n : Nat}, IsRs W rb mb v T p d n → Calls Tryz.prog 142 #[.pointer (some ⟨rb, 0, none⟩)] W (RP VB W rb mb v T d (blk p n))
theorem nine {c0 c1 c2 c3 c4 c5 c6 c7 c8 : Value} {w : World} {g : Nat} (h : rowG #[c0, c1, c2, c3, c4, c5, c6, c7, c8] w g) : w.cell? ⟨g, 0, none⟩ = some c0 ∧ w.cell? ⟨g, 1, none⟩ = some c1 ∧ w.cell? ⟨g, 2, none⟩ = some c2 ∧ w.cell? ⟨g, 3, none⟩ = some c3 ∧ w.cell? ⟨g, 4, none⟩ = some c4 ∧ w.cell? ⟨g, 5, none⟩ = some c5 ∧ w.cell? ⟨g, 6, none⟩ = some c6 ∧ w.cell? ⟨g, 7, none⟩ = some c7 ∧ w.cell? ⟨g, 8, none⟩ = some c8 ∧ (∀ i, w.frozen? ⟨g, i, none⟩ = false) ∧ g < w.heap.size :=
 ⟨h.1 0 (by simp), h.1 1 (by simp), h.1 2 (by simp), h.1 3 (by simp), h.1 4 (by simp), h.1 5 (by simp), h.1 6 (by simp), h.1 7 (by simp), h.1 8 (by simp), h.2.1, h.2.2⟩
theorem infoSt : (Tryz.prog.info? 52).map (·.size) = some 9 := by kernel_rfl
theorem row_range {C : List Value} {w : World} {g : Nat} (h : rowG C.toArray w g) : w.rangeAt g 0 C := fun j v hv => by
 obtain ⟨hj, _⟩ := List.getElem?_eq_some_iff.1 hv
 rw [Nat.zero_add, h.1 j (by simpa using hj)]
 simpa using hv
theorem row_there {C : Array Value} {w : World} {g n : Nat} (hn : C.size = n) (h : rowG C w g) : w.there g 0 n := fun j hj => by
 subst hn
 rw [Nat.zero_add]
 exact ⟨by rw [h.1 j hj]; simp [hj], h.2.1 j⟩
theorem only_sets {g : Nat} : ∀ (vs : List Value) (o : Nat) (w : World), Only (fun j => j = g) w (w.setCells g o vs)
 | [], _, w => Only.refl _ w
 | v :: r, o, w => (os1 (or1 g w) o v).trans (only_sets r (o + 1) _)
theorem rowG_sets {C : Array Value} {w : World} {g : Nat} (D : List Value) (hn : C.size = D.length) (h : rowG C w g) : rowG D.toArray (w.setCells g 0 D) g := by
 refine ⟨fun i hi => ?_, fun i => by rw [World.frozen?_setCells]; exact h.2.1 i, Nat.lt_of_lt_of_le h.2.2 (only_sets D 0 w).size⟩
 have hi' : i < D.length := by simpa using hi
 have := World.cell?_setCells_in g D 0 w (fun j hj => ((row_there hn h) j hj).1) i hi'
 rw [Nat.zero_add] at this
 rw [this]
 simp [hi']
section
variable {ops : Array Oper} {rest : List Oper} {op : Oper} {a : Act} {w : World} {Q : Exit → Act → World → Prop}
theorem ld9 (hgd : op.guard = none) (x : Operand) (ho : op.op = .load 52 x) (g : Nat) (hx : a.eval x = .pointer (some ⟨g, 0, none⟩)) {c0 c1 c2 c3 c4 c5 c6 c7 c8 : Value} (hr : rowG #[c0, c1, c2, c3, c4, c5, c6, c7, c8] w g) (h : wpList Tryz.prog ops Q rest (a.put op.dst (.agg #[c0, c1, c2, c3, c4, c5, c6, c7, c8])) w) : wpList Tryz.prog ops Q (op :: rest) a w :=
 wpList_load_mid hgd 52 x ho g 0 hx [c0, c1, c2, c3, c4, c5, c6, c7, c8] _ (row_range hr) Tryz.underlying52 rfl infoSt h
theorem st9 (hgd : op.guard = none) (x y : Operand) (ho : op.op = .store 52 x y) (g : Nat) (hx : a.eval x = .pointer (some ⟨g, 0, none⟩)) {k : Int} {s1 s2 : ByteArray} {b1 b2 : Bool} {m1 m2 m3 m4 : Option Addr} {n1 n2 n3 n4 p1 p2 p3 p4 : Nat} (hy : a.eval y = .agg #[.int .u8 k, .string s1, .string s2, .bool b1, .bool b2, .slice m1 n1 p1, .slice m2 n2 p2, .slice m3 n3 p3, .slice m4 n4 p4]) {d0 d1 d2 d3 d4 d5 d6 d7 d8 : Value} (hr : rowG #[d0, d1, d2, d3, d4, d5, d6, d7, d8] w g)
 (h : ∀ w', rowG #[.int .u8 k, .string s1, .string s2, .bool b1, .bool b2, .slice m1 n1 p1, .slice m2 n2 p2, .slice m3 n3 p3, .slice m4 n4 p4] w' g → Only (fun j => j = g) w w' → wpList Tryz.prog ops Q rest (a.put op.dst undef) w') : wpList Tryz.prog ops Q (op :: rest) a w :=
 wpList_store_mid hgd 52 x y ho g 0 #[.int .u8 k, .string s1, .string s2, .bool b1, .bool b2, .slice m1 n1 p1, .slice m2 n2 p2, .slice m3 n3 p3, .slice m4 n4 p4] hx hy (row_there (C := #[d0, d1, d2, d3, d4, d5, d6, d7, d8]) rfl hr) infoSt (by simp [Value.oneCell']) (h _ (rowG_sets (C := #[d0, d1, d2, d3, d4, d5, d6, d7, d8]) [.int .u8 k, .string s1, .string s2, .bool b1, .bool b2, .slice m1 n1 p1, .slice m2 n2 p2, .slice m3 n3 p3, .slice m4 n4 p4] rfl hr) (only_sets _ _ _))
end
theorem r9s5 {c0 c1 c2 c3 c4 c5 c6 c7 c8 : Value} {w : World} {g : Nat} (u : Value) (h : rowG #[c0, c1, c2, c3, c4, c5, c6, c7, c8] w g) : rowG #[c0, c1, c2, c3, c4, u, c6, c7, c8] (w.setCell ⟨g, 5, none⟩ u) g := by simpa using row_set (i := 5) (by simp) u h
theorem r9s6 {c0 c1 c2 c3 c4 c5 c6 c7 c8 : Value} {w : World} {g : Nat} (u : Value) (h : rowG #[c0, c1, c2, c3, c4, c5, c6, c7, c8] w g) : rowG #[c0, c1, c2, c3, c4, c5, u, c7, c8] (w.setCell ⟨g, 6, none⟩ u) g := by simpa using row_set (i := 6) (by simp) u h
theorem r9s7 {c0 c1 c2 c3 c4 c5 c6 c7 c8 : Value} {w : World} {g : Nat} (u : Value) (h : rowG #[c0, c1, c2, c3, c4, c5, c6, c7, c8] w g) : rowG #[c0, c1, c2, c3, c4, c5, c6, u, c8] (w.setCell ⟨g, 7, none⟩ u) g := by simpa using row_set (i := 7) (by simp) u h
theorem r9s8 {c0 c1 c2 c3 c4 c5 c6 c7 c8 : Value} {w : World} {g : Nat} (u : Value) (h : rowG #[c0, c1, c2, c3, c4, c5, c6, c7, c8] w g) : rowG #[c0, c1, c2, c3, c4, c5, c6, c7, u] (w.setCell ⟨g, 8, none⟩ u) g := by simpa using row_set (i := 8) (by simp) u h
end
section
open Go.ChangeShapes Go.WideShapes Go.ChangeAt Go.RowKit
section
variable {ops : Array Oper} {rest : List Oper} {op : Oper} {a : Act} {w : World} {Q : Exit → Act → World → Prop}
end
theorem info5f : (Tryz.prog.info? 43).map (·.size) = some 5 := by kernel_rfl
section
variable {ops : Array Oper} {rest : List Oper} {op : Oper} {a : Act} {w : World} {Q : Exit → Act → World → Prop}
end
theorem r5fs1 {c0 c1 c2 c3 c4 : Value} {w : World} {g : Nat} (u : Value) (h : rowG #[c0, c1, c2, c3, c4] w g) : rowG #[c0, u, c2, c3, c4] (w.setCell ⟨g, 1, none⟩ u) g := by simpa using row_set (i := 1) (by simp) u h
theorem r5fs2 {c0 c1 c2 c3 c4 : Value} {w : World} {g : Nat} (u : Value) (h : rowG #[c0, c1, c2, c3, c4] w g) : rowG #[c0, c1, u, c3, c4] (w.setCell ⟨g, 2, none⟩ u) g := by simpa using row_set (i := 2) (by simp) u h
theorem r5fs4 {c0 c1 c2 c3 c4 : Value} {w : World} {g : Nat} (u : Value) (h : rowG #[c0, c1, c2, c3, c4] w g) : rowG #[c0, c1, c2, c3, u] (w.setCell ⟨g, 4, none⟩ u) g := by simpa using row_set (i := 4) (by simp) u h
theorem info1p : (Tryz.prog.info? 24).map (·.size) = some 1 := by kernel_rfl
section
variable {ops : Array Oper} {rest : List Oper} {op : Oper} {a : Act} {w : World} {Q : Exit → Act → World → Prop}
theorem ld1p (hgd : op.guard = none) (x : Operand) (ho : op.op = .load 24 x) (g : Nat) (hx : a.eval x = .pointer (some ⟨g, 0, none⟩)) {c0 : Value} (hr : rowG #[c0] w g) (h : wpList Tryz.prog ops Q rest (a.put op.dst (.agg #[c0])) w) : wpList Tryz.prog ops Q (op :: rest) a w :=
 wpList_load_mid hgd 24 x ho g 0 hx [c0] _ (row_range hr) Tryz.underlying24 rfl info1p h
theorem st1p (hgd : op.guard = none) (x y : Operand) (ho : op.op = .store 24 x y) (g : Nat) (hx : a.eval x = .pointer (some ⟨g, 0, none⟩)) {m1 : Option Addr} {n1 p1 : Nat} (hy : a.eval y = .agg #[.slice m1 n1 p1]) {d0 : Value} (hr : rowG #[d0] w g)
 (h : ∀ w', rowG #[.slice m1 n1 p1] w' g → Only (fun j => j = g) w w' → wpList Tryz.prog ops Q rest (a.put op.dst undef) w') : wpList Tryz.prog ops Q (op :: rest) a w :=
 wpList_store_mid hgd 24 x y ho g 0 #[.slice m1 n1 p1] hx hy (row_there (C := #[d0]) rfl hr) info1p (by simp [Value.oneCell']) (h _ (rowG_sets (C := #[d0]) [.slice m1 n1 p1] rfl hr) (only_sets _ _ _))
end
theorem res1p {fn : Func} {p : Tmp} (h : fn.results = #[.cell p 24]) (tmps : Array Value) (w : World) (g : Nat) (c0 : Value) (hp : tmps.getD p undef = .pointer (some ⟨g, 0, none⟩)) (hr : rowG #[c0] w g) :
 (results fn tmps).run Tryz.prog w = .ok (.agg #[c0]) w := by
 have hp' : tmps[p]?.getD undef = .pointer (some ⟨g, 0, none⟩) := by simpa using hp
 have h0 : w.cell? ⟨g, 0, none⟩ = some c0 := hr.1 0 (by simp)
 simp [results, h, hp', go_sem, h0]
theorem r1ps0 {c0 : Value} {w : World} {g : Nat} (u : Value) (h : rowG #[c0] w g) : rowG #[u] (w.setCell ⟨g, 0, none⟩ u) g := by simpa using row_set (i := 0) (by simp) u h
def PmsAt (G : Nat → Prop) (w : World) (l : List Pm) (ma : Option Addr) : Prop := ∀ i (h : i < l.length), ∃ b o, ma = some ⟨b, o, none⟩ ∧ G b ∧ w.cell? ⟨b, o + i * 4, none⟩ = some (.string (str l[i].nm)) ∧ w.cell? ⟨b, o + i * 4 + 1, none⟩ = some (.bool l[i].buf) ∧ w.cell? ⟨b, o + i * 4 + 2, none⟩ = some (.bool l[i].sec) ∧ w.cell? ⟨b, o + i * 4 + 3, none⟩ = some (.bool l[i].mu)
theorem PmsAt.mv {G G' : Nat → Prop} {w w' : World} {l : List Pm} {ma : Option Addr} (h : PmsAt G w l ma) (hg : ∀ b, G b → G' b) (hc : ∀ b o v, G b → w.cell? ⟨b, o, none⟩ = some v → w'.cell? ⟨b, o, none⟩ = some v) : PmsAt G' w' l ma := fun i hi => by
 obtain ⟨b, o, e, hb, h0, h1, h2, h3⟩ := h i hi
 exact ⟨b, o, e, hg _ hb, hc _ _ _ hb h0, hc _ _ _ hb h1, hc _ _ _ hb h2, hc _ _ _ hb h3⟩
theorem PmsAt.of {G : Nat → Prop} {w w' : World} {l : List Pm} {ma : Option Addr} (h : PmsAt G w l ma) (hb : Below w.heap.size w w') : PmsAt G w' l ma := h.mv (fun _ h => h) (fun b o v _ hc => stay hb hc)
theorem PmsAt.only {G S : Nat → Prop} {w w' : World} {l : List Pm} {ma : Option Addr} (h : PmsAt G w l ma) (ho : Only S w w') (hs : ∀ b, G b → ¬ S b) : PmsAt G w' l ma := h.mv (fun _ h => h) (fun b o v hg hc => ho.cell (hs b hg) hc)
theorem PmsAt.mono {G G' : Nat → Prop} {w : World} {l : List Pm} {ma : Option Addr} (h : PmsAt G w l ma) (hg : ∀ b, G b → G' b) : PmsAt G' w l ma := h.mv hg (fun _ _ _ _ h => h)
theorem PmsAt.nil {G : Nat → Prop} {w : World} {ma : Option Addr} : PmsAt G w [] ma := fun i h => by simp at h
def strC (l : List (List UInt8)) : List Value := l.map fun s => .string (str s)
theorem strC_app (a b : List (List UInt8)) : strC (a ++ b) = strC a ++ strC b := by simp [strC]
theorem strC_one (l : List (List UInt8)) : ∀ u ∈ strC l, u.oneCell' = true := by
 intro u hu
 unfold strC at hu
 obtain ⟨s, _, rfl⟩ := List.mem_map.1 hu
 rfl
theorem strs_own {w : World} {B M : Nat} {a : Option Addr} {c : Nat} {l : List (List UInt8)} (h : w.ownsRow B 9 1 (.slice a M c) M (strC l)) (hM : M = l.length) : StrsAt (fun b => B ≤ b ∧ b < w.heap.size) w l a := fun i hi => by
 obtain ⟨g, cg, e, hg1, hg2⟩ := h.form (by omega)
 simp only [Value.slice.injEq, true_and] at e
 obtain ⟨rfl, rfl⟩ := e
 refine ⟨g, 0, rfl, ⟨hg1, hg2⟩, ?_⟩
 rw [Nat.zero_add, h.cellAt i (by omega)]
 simp [strC, hi]
def pmC (l : List Pm) : List Value := l.flatMap fun p => [.string (str p.nm), .bool p.buf, .bool p.sec, .bool p.mu]
theorem pmC_one (l : List Pm) : ∀ u ∈ pmC l, u.oneCell' = true := by
 intro u hu
 unfold pmC at hu
 obtain ⟨p, _, hp⟩ := List.mem_flatMap.1 hu
 simp only [List.mem_cons, List.not_mem_nil, or_false] at hp
 rcases hp with rfl | rfl | rfl | rfl <;> rfl
theorem pmC_at : ∀ (l : List Pm) (i : Nat) (h : i < l.length), (pmC l)[i * 4]? = some (.string (str l[i].nm)) ∧ (pmC l)[i * 4 + 1]? = some (.bool l[i].buf) ∧ (pmC l)[i * 4 + 2]? = some (.bool l[i].sec) ∧ (pmC l)[i * 4 + 3]? = some (.bool l[i].mu) := by
 intro l
 induction l with
 | nil => intro i h; simp at h
 | cons x l ih =>
  intro i h
  cases i with
  | zero => exact ⟨rfl, rfl, rfl, rfl⟩
  | succ i =>
   have e : ∀ r, (pmC (x :: l))[(i + 1) * 4 + r]? = (pmC l)[i * 4 + r]? := fun r => by
    show (_ :: _ :: _ :: _ :: pmC l)[(i + 1) * 4 + r]? = _
    rw [show (i + 1) * 4 + r = (i * 4 + r) + 1 + 1 + 1 + 1 by omega]
    rfl
   obtain ⟨a0, a1, a2, a3⟩ := ih i (by simpa using h)
   exact ⟨(e 0).trans a0, (e 1).trans a1, (e 2).trans a2, (e 3).trans a3⟩
theorem pms_own {w : World} {B M : Nat} {a : Option Addr} {c : Nat} {l : List Pm} (h : w.ownsRow B 49 4 (.slice a M c) M (pmC l)) (hM : M = l.length) : PmsAt (fun b => B ≤ b ∧ b < w.heap.size) w l a := fun i hi => by
 obtain ⟨g, cg, e, hg1, hg2⟩ := h.form (by omega)
 simp only [Value.slice.injEq, true_and] at e
 obtain ⟨rfl, rfl⟩ := e
 obtain ⟨a0, a1, a2, a3⟩ := pmC_at l i hi
 refine ⟨g, 0, rfl, ⟨hg1, hg2⟩, ?_⟩
 rw [Nat.zero_add, h.cellAt (i * 4) (by omega), h.cellAt (i * 4 + 1) (by omega), h.cellAt (i * 4 + 2) (by omega), h.cellAt (i * 4 + 3) (by omega)]
 exact ⟨a0, a1, a2, a3⟩
def VP (w w' : World) (u : Value) (x : Pm) : Prop := u = .agg #[.string (str x.nm), .bool x.buf, .bool x.sec, .bool x.mu]
def VPs (w w' : World) (u : Value) (l : List Pm) : Prop := ∃ ma cap, u = .slice ma l.length cap ∧ l.length ≤ 140737488355328 ∧ PmsAt (fun b => w.heap.size ≤ b ∧ b < w'.heap.size) w' l ma
end
end Go.Proofs.YtfbjljcmmbdhkaaGreatDoor
