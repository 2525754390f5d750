/- Statements in memory; rows of statements. -/
import Derived.Test.YtkibkaoffgnmkaaGreatDoorL11
import Derived.Test.YtkibkaoffgnmkaaGreatDoorL10
import Derived.Deep.MidRow
namespace Go.Proofs.YtkibkaoffgnmkaaGreatDoor
set_option linter.unusedVariables false
set_option linter.unusedSimpArgs false
set_option maxRecDepth 100000
set_option maxHeartbeats 200000000
section
open Go.ChangeShapes Go.WideShapes Go.ChangeAt Go.RowKit
def StrsAt (G : Nat → Prop) (w : World) (l : List (List UInt8)) (ma : Option Addr) : Prop := ∀ i (h : i < l.length), ∃ b o, ma = some ⟨b, o, none⟩ ∧ G b ∧ w.cell? ⟨b, o + i, none⟩ = some (.string (str l[i]))
theorem StrsAt.mv {G G' : Nat → Prop} {w w' : World} {l : List (List UInt8)} {ma : Option Addr} (h : StrsAt G w l ma) (hg : ∀ b, G b → G' b) (hc : ∀ b o v, G b → w.cell? ⟨b, o, none⟩ = some v → w'.cell? ⟨b, o, none⟩ = some v) : StrsAt G' w' l ma := fun i hi => by
 obtain ⟨b, o, e, hb, h1⟩ := h i hi
 exact ⟨b, o, e, hg _ hb, hc _ _ _ hb h1⟩
theorem StrsAt.nil {G : Nat → Prop} {w : World} {ma : Option Addr} : StrsAt G w [] ma := fun i h => by simp at h
inductive StsAt (G : Nat → Prop) (w : World) : List St → Option Addr → Prop
 | nil {ma : Option Addr} : StsAt G w [] ma
 | cons {k : Nat} {nm fr : List UInt8} {sec mu : Bool} {ex : List Xp} {ar : List (List UInt8)} {bd el r : List St} {b off : Nat} {mx ma mb ml : Option Addr} {cx ca cb cl : Nat} (hg : G b)
   (c0 : w.cell? ⟨b, off, none⟩ = some (.int .u8 (k : Int))) (c1 : w.cell? ⟨b, off + 1, none⟩ = some (.string (str nm))) (c2 : w.cell? ⟨b, off + 2, none⟩ = some (.string (str fr))) (c3 : w.cell? ⟨b, off + 3, none⟩ = some (.bool sec)) (c4 : w.cell? ⟨b, off + 4, none⟩ = some (.bool mu))
   (c5 : w.cell? ⟨b, off + 5, none⟩ = some (.slice mx ex.length cx)) (c6 : w.cell? ⟨b, off + 6, none⟩ = some (.slice ma ar.length ca)) (c7 : w.cell? ⟨b, off + 7, none⟩ = some (.slice mb bd.length cb)) (c8 : w.cell? ⟨b, off + 8, none⟩ = some (.slice ml el.length cl))
   (hk : k < 256) (hx : ex.length ≤ 140737488355328) (ha : ar.length ≤ 140737488355328) (hb : bd.length ≤ 140737488355328) (hl : el.length ≤ 140737488355328)
   (hX : KidsAt G w ex mx) (hA : StrsAt G w ar ma) (hB : StsAt G w bd mb) (hL : StsAt G w el ml) (hr : StsAt G w r (some ⟨b, off + 9, none⟩)) : StsAt G w (.mk k nm fr sec mu ex ar bd el :: r) (some ⟨b, off, none⟩)
theorem StsAt.mv {G G' : Nat → Prop} {w w' : World} {l : List St} {ma : Option Addr} (h : StsAt G w l ma) (hg : ∀ b, G b → G' b) (hc : ∀ b o v, G b → w.cell? ⟨b, o, none⟩ = some v → w'.cell? ⟨b, o, none⟩ = some v) : StsAt G' w' l ma := by
 induction h with
 | nil => exact .nil
 | cons h1 c0 c1 c2 c3 c4 c5 c6 c7 c8 hk hx ha hb hl hX hA _ _ _ iB iL ir => exact .cons (hg _ h1) (hc _ _ _ h1 c0) (hc _ _ _ h1 c1) (hc _ _ _ h1 c2) (hc _ _ _ h1 c3) (hc _ _ _ h1 c4) (hc _ _ _ h1 c5) (hc _ _ _ h1 c6) (hc _ _ _ h1 c7) (hc _ _ _ h1 c8) hk hx ha hb hl (hX.mv hg hc) (hA.mv hg hc) iB iL ir
inductive IsSt (G : Nat → Prop) (w : World) : Value → St → Prop
 | mk {k : Nat} {nm fr : List UInt8} {sec mu : Bool} {ex : List Xp} {ar : List (List UInt8)} {bd el : List St} {mx ma mb ml : Option Addr} {cx ca cb cl : Nat}
   (hk : k < 256) (hx : ex.length ≤ 140737488355328) (ha : ar.length ≤ 140737488355328) (hb : bd.length ≤ 140737488355328) (hl : el.length ≤ 140737488355328)
   (hX : KidsAt G w ex mx) (hA : StrsAt G w ar ma) (hB : StsAt G w bd mb) (hL : StsAt G w el ml) :
   IsSt G w (.agg #[.int .u8 (k : Int), .string (str nm), .string (str fr), .bool sec, .bool mu, .slice mx ex.length cx, .slice ma ar.length ca, .slice mb bd.length cb, .slice ml el.length cl]) (.mk k nm fr sec mu ex ar bd el)
theorem IsSt.mv {G G' : Nat → Prop} {w w' : World} {v : Value} {x : St} (h : IsSt G w v x) (hg : ∀ b, G b → G' b) (hc : ∀ b o v, G b → w.cell? ⟨b, o, none⟩ = some v → w'.cell? ⟨b, o, none⟩ = some v) : IsSt G' w' v x := by
 cases h with
 | mk hk hx ha hb hl hX hA hB hL => exact .mk hk hx ha hb hl (hX.mv hg hc) (hA.mv hg hc) (hB.mv hg hc) (hL.mv hg hc)
theorem IsSt.of {G : Nat → Prop} {w w' : World} {v : Value} {x : St} (h : IsSt G w v x) (hb : Below w.heap.size w w') : IsSt G w' v x := h.mv (fun _ h => h) (fun b o v _ hc => stay hb hc)
theorem IsSt.only {G S : Nat → Prop} {w w' : World} {v : Value} {x : St} (h : IsSt G w v x) (ho : Only S w w') (hs : ∀ b, G b → ¬ S b) : IsSt G w' v x := h.mv (fun _ h => h) (fun b o v hg hc => ho.cell (hs b hg) hc)
theorem IsSt.mono {G G' : Nat → Prop} {w : World} {v : Value} {x : St} (h : IsSt G w v x) (hg : ∀ b, G b → G' b) : IsSt G' w v x := h.mv hg (fun _ _ _ _ h => h)
theorem KidsAt.of {G : Nat → Prop} {w w' : World} {l : List Xp} {ma : Option Addr} (h : KidsAt G w l ma) (hb : Below w.heap.size w w') : KidsAt G w' l ma := h.mv (fun _ h => h) (fun b o v _ hc => stay hb hc)
theorem KidsAt.only {G S : Nat → Prop} {w w' : World} {l : List Xp} {ma : Option Addr} (h : KidsAt G w l ma) (ho : Only S w w') (hs : ∀ b, G b → ¬ S b) : KidsAt G w' l ma := h.mv (fun _ h => h) (fun b o v hg hc => ho.cell (hs b hg) hc)
theorem KidsAt.mono {G G' : Nat → Prop} {w : World} {l : List Xp} {ma : Option Addr} (h : KidsAt G w l ma) (hg : ∀ b, G b → G' b) : KidsAt G' w l ma := h.mv hg (fun _ _ _ _ h => h)
theorem StrsAt.of {G : Nat → Prop} {w w' : World} {l : List (List UInt8)} {ma : Option Addr} (h : StrsAt G w l ma) (hb : Below w.heap.size w w') : StrsAt G w' l ma := h.mv (fun _ h => h) (fun b o v _ hc => stay hb hc)
theorem StrsAt.only {G S : Nat → Prop} {w w' : World} {l : List (List UInt8)} {ma : Option Addr} (h : StrsAt G w l ma) (ho : Only S w w') (hs : ∀ b, G b → ¬ S b) : StrsAt G w' l ma := h.mv (fun _ h => h) (fun b o v hg hc => ho.cell (hs b hg) hc)
theorem StrsAt.mono {G G' : Nat → Prop} {w : World} {l : List (List UInt8)} {ma : Option Addr} (h : StrsAt G w l ma) (hg : ∀ b, G b → G' b) : StrsAt G' w l ma := h.mv hg (fun _ _ _ _ h => h)
theorem StsAt.of {G : Nat → Prop} {w w' : World} {l : List St} {ma : Option Addr} (h : StsAt G w l ma) (hb : Below w.heap.size w w') : StsAt G w' l ma := h.mv (fun _ h => h) (fun b o v _ hc => stay hb hc)
theorem StsAt.only {G S : Nat → Prop} {w w' : World} {l : List St} {ma : Option Addr} (h : StsAt G w l ma) (ho : Only S w w') (hs : ∀ b, G b → ¬ S b) : StsAt G w' l ma := h.mv (fun _ h => h) (fun b o v hg hc => ho.cell (hs b hg) hc)
theorem StsAt.mono {G G' : Nat → Prop} {w : World} {l : List St} {ma : Option Addr} (h : StsAt G w l ma) (hg : ∀ b, G b → G' b) : StsAt G' w l ma := h.mv hg (fun _ _ _ _ h => h)
structure Sx where
 k : Nat
 nm : List UInt8
 fr : List UInt8
 sec : Bool
 mu : Bool
 mx : Option Addr
 nx : Nat
 cx : Nat
 ma : Option Addr
 na : Nat
 ca : Nat
 mb : Option Addr
 nb : Nat
 cb : Nat
 ml : Option Addr
 nl : Nat
 cl : Nat
 x : St
def Sx.cells (K : Sx) : List Value := [.int .u8 (K.k : Int), .string (str K.nm), .string (str K.fr), .bool K.sec, .bool K.mu, .slice K.mx K.nx K.cx, .slice K.ma K.na K.ca, .slice K.mb K.nb K.cb, .slice K.ml K.nl K.cl]
def Sx.is (G : Nat → Prop) (w : World) (K : Sx) : Prop := IsSt G w (.agg #[.int .u8 (K.k : Int), .string (str K.nm), .string (str K.fr), .bool K.sec, .bool K.mu, .slice K.mx K.nx K.cx, .slice K.ma K.na K.ca, .slice K.mb K.nb K.cb, .slice K.ml K.nl K.cl]) K.x
def sxs (L : List Sx) : List Value := L.flatMap Sx.cells
theorem sxs_len (L : List Sx) : (sxs L).length = L.length * 9 := by
 induction L with
 | nil => rfl
 | cons K L ih =>
  show (_ :: _ :: _ :: _ :: _ :: _ :: _ :: _ :: _ :: sxs L).length = _
  simp only [List.length_cons, ih]
  omega
theorem sxs_app (a b : List Sx) : sxs (a ++ b) = sxs a ++ sxs b := by simp [sxs]
theorem sxs_one (L : List Sx) : ∀ u ∈ sxs L, u.oneCell' = true := by
 intro u hu
 unfold sxs at hu
 obtain ⟨K, _, hp⟩ := List.mem_flatMap.1 hu
 unfold Sx.cells at hp
 simp only [List.mem_cons, List.not_mem_nil, or_false] at hp
 rcases hp with rfl | rfl | rfl | rfl | rfl | rfl | rfl | rfl | rfl <;> rfl
theorem st_form {G : Nat → Prop} {w : World} {v : Value} {x : St} (h : IsSt G w v x) : ∃ K : Sx, v = .agg #[.int .u8 (K.k : Int), .string (str K.nm), .string (str K.fr), .bool K.sec, .bool K.mu, .slice K.mx K.nx K.cx, .slice K.ma K.na K.ca, .slice K.mb K.nb K.cb, .slice K.ml K.nl K.cl] ∧ K.x = x ∧ x = .mk K.k K.nm K.fr K.sec K.mu x.ex x.ar x.bd x.el ∧ K.k < 256 ∧ K.nx = x.ex.length ∧ K.na = x.ar.length ∧ K.nb = x.bd.length ∧ K.nl = x.el.length ∧ K.nx ≤ 140737488355328 ∧ K.na ≤ 140737488355328 ∧ K.nb ≤ 140737488355328 ∧ K.nl ≤ 140737488355328 ∧ KidsAt G w x.ex K.mx ∧ StrsAt G w x.ar K.ma ∧ StsAt G w x.bd K.mb ∧ StsAt G w x.el K.ml := by
 cases h with
 | @mk k nm fr sec mu ex ar bd el mx ma mb ml cx ca cb cl hk hx ha hb hl hX hA hB hL =>
  exact ⟨⟨k, nm, fr, sec, mu, mx, ex.length, cx, ma, ar.length, ca, mb, bd.length, cb, ml, el.length, cl, .mk k nm fr sec mu ex ar bd el⟩, rfl, rfl, rfl, hk, rfl, rfl, rfl, rfl, hx, ha, hb, hl, hX, hA, hB, hL⟩
theorem sx_inj {K K' : Sx} (h : (.agg #[.int .u8 (K.k : Int), .string (str K.nm), .string (str K.fr), .bool K.sec, .bool K.mu, .slice K.mx K.nx K.cx, .slice K.ma K.na K.ca, .slice K.mb K.nb K.cb, .slice K.ml K.nl K.cl] : Value) = .agg #[.int .u8 (K'.k : Int), .string (str K'.nm), .string (str K'.fr), .bool K'.sec, .bool K'.mu, .slice K'.mx K'.nx K'.cx, .slice K'.ma K'.na K'.ca, .slice K'.mb K'.nb K'.cb, .slice K'.ml K'.nl K'.cl]) (hx : K.x = K'.x) : K = K' := by
 obtain ⟨k, nm, fr, sec, mu, mx, nx, cx, ma, na, ca, mb, nb, cb, ml, nl, cl, x⟩ := K
 obtain ⟨k', nm', fr', sec', mu', mx', nx', cx', ma', na', ca', mb', nb', cb', ml', nl', cl', x'⟩ := K'
 simp only [Value.agg.injEq, Array.mk.injEq, List.cons.injEq, Value.int.injEq, Value.string.injEq, Value.bool.injEq, Value.slice.injEq, and_true, true_and] at h
 obtain ⟨h0, h1, h2, rfl, rfl, ⟨rfl, rfl, rfl⟩, ⟨rfl, rfl, rfl⟩, ⟨rfl, rfl, rfl⟩, rfl, rfl, rfl⟩ := h
 have e1 := congrArg (fun b : ByteArray => b.data.toList) h1
 have e2 := congrArg (fun b : ByteArray => b.data.toList) h2
 simp only [str_list] at e1 e2
 obtain rfl : k = k' := by omega
 subst e1 e2
 simp only at hx
 subst hx
 rfl
theorem sx_all {G : Nat → Prop} {w : World} {K : Sx} (h : K.is G w) : K.x = .mk K.k K.nm K.fr K.sec K.mu K.x.ex K.x.ar K.x.bd K.x.el ∧ K.k < 256 ∧ K.nx = K.x.ex.length ∧ K.na = K.x.ar.length ∧ K.nb = K.x.bd.length ∧ K.nl = K.x.el.length ∧ K.nx ≤ 140737488355328 ∧ K.na ≤ 140737488355328 ∧ K.nb ≤ 140737488355328 ∧ K.nl ≤ 140737488355328 ∧ KidsAt G w K.x.ex K.mx ∧ StrsAt G w K.x.ar K.ma ∧ StsAt G w K.x.bd K.mb ∧ StsAt G w K.x.el K.ml := by
 obtain ⟨K', hv, hx, h2⟩ := st_form h
 obtain rfl := sx_inj hv hx.symm
 exact h2
def VS (w w' : World) (u : Value) (x : St) : Prop := IsSt (fun b => w.heap.size ≤ b ∧ b < w'.heap.size) w' u x
def VB (w w' : World) (u : Value) (l : List St) : Prop := ∃ ma cap, u = .slice ma l.length cap ∧ l.length ≤ 140737488355328 ∧ StsAt (fun b => w.heap.size ≤ b ∧ b < w'.heap.size) w' l ma
def VXs (w w' : World) (u : Value) (l : List Xp) : Prop := ∃ ma cap, u = .slice ma l.length cap ∧ l.length ≤ 140737488355328 ∧ KidsAt (fun b => w.heap.size ≤ b ∧ b < w'.heap.size) w' l ma
def VA (w w' : World) (u : Value) (l : List (List UInt8)) : Prop := ∃ ma cap, u = .slice ma l.length cap ∧ l.length ≤ 140737488355328 ∧ StrsAt (fun b => w.heap.size ≤ b ∧ b < w'.heap.size) w' l ma
def BlkC (rb mb : Nat) (v : Value) (T : List (Tk × Int)) (d : Nat) (blk : Nat → Nat → Rz (List St)) : Prop := ∀ {W : World} {p n : Nat}, IsRs W rb mb v T p d n → Calls Tryz.prog 142 #[.pointer (some ⟨rb, 0, none⟩)] W (RP VB W rb mb v T d (blk p n))
theorem nine {c0 c1 c2 c3 c4 c5 c6 c7 c8 : Value} {w : World} {g : Nat} (h : rowG #[c0, c1, c2, c3, c4, c5, c6, c7, c8] w g) : w.cell? ⟨g, 0, none⟩ = some c0 ∧ w.cell? ⟨g, 1, none⟩ = some c1 ∧ w.cell? ⟨g, 2, none⟩ = some c2 ∧ w.cell? ⟨g, 3, none⟩ = some c3 ∧ w.cell? ⟨g, 4, none⟩ = some c4 ∧ w.cell? ⟨g, 5, none⟩ = some c5 ∧ w.cell? ⟨g, 6, none⟩ = some c6 ∧ w.cell? ⟨g, 7, none⟩ = some c7 ∧ w.cell? ⟨g, 8, none⟩ = some c8 ∧ (∀ i, w.frozen? ⟨g, i, none⟩ = false) ∧ g < w.heap.size :=
 ⟨h.1 0 (by simp), h.1 1 (by simp), h.1 2 (by simp), h.1 3 (by simp), h.1 4 (by simp), h.1 5 (by simp), h.1 6 (by simp), h.1 7 (by simp), h.1 8 (by simp), h.2.1, h.2.2⟩
theorem infoSt : (Tryz.prog.info? 52).map (·.size) = some 9 := by kernel_rfl
theorem row_range {C : List Value} {w : World} {g : Nat} (h : rowG C.toArray w g) : w.rangeAt g 0 C := fun j v hv => by
 obtain ⟨hj, _⟩ := List.getElem?_eq_some_iff.1 hv
 rw [Nat.zero_add, h.1 j (by simpa using hj)]
 simpa using hv
theorem row_there {C : Array Value} {w : World} {g n : Nat} (hn : C.size = n) (h : rowG C w g) : w.there g 0 n := fun j hj => by
 subst hn
 rw [Nat.zero_add]
 exact ⟨by rw [h.1 j hj]; simp [hj], h.2.1 j⟩
theorem only_sets {g : Nat} : ∀ (vs : List Value) (o : Nat) (w : World), Only (fun j => j = g) w (w.setCells g o vs)
 | [], _, w => Only.refl _ w
 | v :: r, o, w => (os1 (or1 g w) o v).trans (only_sets r (o + 1) _)
theorem rowG_sets {C : Array Value} {w : World} {g : Nat} (D : List Value) (hn : C.size = D.length) (h : rowG C w g) : rowG D.toArray (w.setCells g 0 D) g := by
 refine ⟨fun i hi => ?_, fun i => by rw [World.frozen?_setCells]; exact h.2.1 i, Nat.lt_of_lt_of_le h.2.2 (only_sets D 0 w).size⟩
 have hi' : i < D.length := by simpa using hi
 have := World.cell?_setCells_in g D 0 w (fun j hj => ((row_there hn h) j hj).1) i hi'
 rw [Nat.zero_add] at this
 rw [this]
 simp [hi']
section
variable {ops : Array Oper} {rest : List Oper} {op : Oper} {a : Act} {w : World} {Q : Exit → Act → World → Prop}
theorem ld9 (hgd : op.guard = none) (x : Operand) (ho : op.op = .load 52 x) (g : Nat) (hx : a.eval x = .pointer (some ⟨g, 0, none⟩)) {c0 c1 c2 c3 c4 c5 c6 c7 c8 : Value} (hr : rowG #[c0, c1, c2, c3, c4, c5, c6, c7, c8] w g) (h : wpList Tryz.prog ops Q rest (a.put op.dst (.agg #[c0, c1, c2, c3, c4, c5, c6, c7, c8])) w) : wpList Tryz.prog ops Q (op :: rest) a w :=
 wpList_load_mid hgd 52 x ho g 0 hx [c0, c1, c2, c3, c4, c5, c6, c7, c8] _ (row_range hr) Tryz.underlying52 rfl infoSt h
theorem st9 (hgd : op.guard = none) (x y : Operand) (ho : op.op = .store 52 x y) (g : Nat) (hx : a.eval x = .pointer (some ⟨g, 0, none⟩)) {k : Int} {s1 s2 : ByteArray} {b1 b2 : Bool} {m1 m2 m3 m4 : Option Addr} {n1 n2 n3 n4 p1 p2 p3 p4 : Nat} (hy : a.eval y = .agg #[.int .u8 k, .string s1, .string s2, .bool b1, .bool b2, .slice m1 n1 p1, .slice m2 n2 p2, .slice m3 n3 p3, .slice m4 n4 p4]) {d0 d1 d2 d3 d4 d5 d6 d7 d8 : Value} (hr : rowG #[d0, d1, d2, d3, d4, d5, d6, d7, d8] w g)
  (h : ∀ w', rowG #[.int .u8 k, .string s1, .string s2, .bool b1, .bool b2, .slice m1 n1 p1, .slice m2 n2 p2, .slice m3 n3 p3, .slice m4 n4 p4] w' g → Only (fun j => j = g) w w' → wpList Tryz.prog ops Q rest (a.put op.dst undef) w') : wpList Tryz.prog ops Q (op :: rest) a w :=
 wpList_store_mid hgd 52 x y ho g 0 #[.int .u8 k, .string s1, .string s2, .bool b1, .bool b2, .slice m1 n1 p1, .slice m2 n2 p2, .slice m3 n3 p3, .slice m4 n4 p4] hx hy (row_there (C := #[d0, d1, d2, d3, d4, d5, d6, d7, d8]) rfl hr) infoSt (by simp [Value.oneCell']) (h _ (rowG_sets (C := #[d0, d1, d2, d3, d4, d5, d6, d7, d8]) [.int .u8 k, .string s1, .string s2, .bool b1, .bool b2, .slice m1 n1 p1, .slice m2 n2 p2, .slice m3 n3 p3, .slice m4 n4 p4] rfl hr) (only_sets _ _ _))
end
end
section
open Go.ChangeShapes Go.WideShapes Go.ChangeAt Go.RowKit
section
variable {ops : Array Oper} {rest : List Oper} {op : Oper} {a : Act} {w : World} {Q : Exit → Act → World → Prop}
end
section
variable {ops : Array Oper} {rest : List Oper} {op : Oper} {a : Act} {w : World} {Q : Exit → Act → World → Prop}
end
section
variable {ops : Array Oper} {rest : List Oper} {op : Oper} {a : Act} {w : World} {Q : Exit → Act → World → Prop}
end
def PmsAt (G : Nat → Prop) (w : World) (l : List Pm) (ma : Option Addr) : Prop := ∀ i (h : i < l.length), ∃ b o, ma = some ⟨b, o, none⟩ ∧ G b ∧ w.cell? ⟨b, o + i * 4, none⟩ = some (.string (str l[i].nm)) ∧ w.cell? ⟨b, o + i * 4 + 1, none⟩ = some (.bool l[i].buf) ∧ w.cell? ⟨b, o + i * 4 + 2, none⟩ = some (.bool l[i].sec) ∧ w.cell? ⟨b, o + i * 4 + 3, none⟩ = some (.bool l[i].mu)
theorem PmsAt.mv {G G' : Nat → Prop} {w w' : World} {l : List Pm} {ma : Option Addr} (h : PmsAt G w l ma) (hg : ∀ b, G b → G' b) (hc : ∀ b o v, G b → w.cell? ⟨b, o, none⟩ = some v → w'.cell? ⟨b, o, none⟩ = some v) : PmsAt G' w' l ma := fun i hi => by
 obtain ⟨b, o, e, hb, h0, h1, h2, h3⟩ := h i hi
 exact ⟨b, o, e, hg _ hb, hc _ _ _ hb h0, hc _ _ _ hb h1, hc _ _ _ hb h2, hc _ _ _ hb h3⟩
theorem PmsAt.of {G : Nat → Prop} {w w' : World} {l : List Pm} {ma : Option Addr} (h : PmsAt G w l ma) (hb : Below w.heap.size w w') : PmsAt G w' l ma := h.mv (fun _ h => h) (fun b o v _ hc => stay hb hc)
theorem PmsAt.only {G S : Nat → Prop} {w w' : World} {l : List Pm} {ma : Option Addr} (h : PmsAt G w l ma) (ho : Only S w w') (hs : ∀ b, G b → ¬ S b) : PmsAt G w' l ma := h.mv (fun _ h => h) (fun b o v hg hc => ho.cell (hs b hg) hc)
theorem PmsAt.mono {G G' : Nat → Prop} {w : World} {l : List Pm} {ma : Option Addr} (h : PmsAt G w l ma) (hg : ∀ b, G b → G' b) : PmsAt G' w l ma := h.mv hg (fun _ _ _ _ h => h)
theorem PmsAt.nil {G : Nat → Prop} {w : World} {ma : Option Addr} : PmsAt G w [] ma := fun i h => by simp at h
def strC (l : List (List UInt8)) : List Value := l.map fun s => .string (str s)
def pmC (l : List Pm) : List Value := l.flatMap fun p => [.string (str p.nm), .bool p.buf, .bool p.sec, .bool p.mu]
def VP (w w' : World) (u : Value) (x : Pm) : Prop := u = .agg #[.string (str x.nm), .bool x.buf, .bool x.sec, .bool x.mu]
def VPs (w w' : World) (u : Value) (l : List Pm) : Prop := ∃ ma cap, u = .slice ma l.length cap ∧ l.length ≤ 140737488355328 ∧ PmsAt (fun b => w.heap.size ≤ b ∧ b < w'.heap.size) w' l ma
end
section
open Go.ChangeShapes Go.WideShapes Go.ChangeAt Go.RowKit
mutual
def Xp.lb : Xp → Prop
 | .mk _ _ _ _ l => l.length ≤ 2199023255488 ∧ lbL l
def lbL : List Xp → Prop
 | [] => True
 | x :: r => x.lb ∧ lbL r
end
theorem lbL_iff : ∀ {l : List Xp}, lbL l ↔ ∀ x ∈ l, x.lb
 | [] => by rw [lbL]; simp
 | x :: r => by rw [lbL, lbL_iff (l := r)]; simp
end
end Go.Proofs.YtkibkaoffgnmkaaGreatDoor
