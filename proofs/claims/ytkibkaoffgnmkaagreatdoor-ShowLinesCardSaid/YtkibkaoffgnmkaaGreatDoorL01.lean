/- Plain: expressions; which may be; their tokens; what is read; what is told is read again, what is read is told. -/
import Derived.Test.YtkibkaoffgnmkaaGreatDoorL00
import Derived.Test.YtkibkaoffgnmkaaGreatDoorShelf
import Derived.LaidLaws
import Derived.LaidHandle
import Derived.Stop.Joined
import Derived.ProofKit
import Derived.OpenShut
import Derived.LaidMore
import Derived.Handy
namespace Go.Proofs.YtkibkaoffgnmkaaGreatDoor
set_option linter.unusedVariables false
set_option linter.unusedSimpArgs false
set_option maxRecDepth 100000
set_option maxHeartbeats 200000000
section
inductive Xp
 | mk (k n : Nat) (s : List UInt8) (o : Nat) (l : List Xp)
def Xp.k : Xp → Nat | .mk k _ _ _ _ => k
def Xp.n : Xp → Nat | .mk _ n _ _ _ => n
def Xp.s : Xp → List UInt8 | .mk _ _ s _ _ => s
def Xp.o : Xp → Nat | .mk _ _ _ o _ => o
def Xp.l : Xp → List Xp | .mk _ _ _ _ l => l
instance : Inhabited Xp := ⟨.mk 0 0 [] 0 []⟩
def x0 : Xp := .mk 0 0 [] 0 []
def opsL : List (List UInt8) := [[], [43], [45], [60, 60], [60, 36], [60], [94], [62, 62], [62, 62, 62], [124], [38], [42], [42, 94], [47], [37]]
def opS (o : Nat) : List UInt8 := opsL.getD o []
def sg (t : List UInt8) : Tk := ⟨4, t, 0⟩
def nmT (t : List UInt8) : Tk := ⟨1, t, 0⟩
def fitB (k n : Nat) (s : List UInt8) (o m : Nat) : Bool :=
 if k = 1 then decide (s = []) && decide (o = 0) && decide (m = 0)
 else if k = 2 ∨ k = 4 then decide (n = 0) && nmdB s && decide (o = 0) && decide (m = 0)
 else if k = 5 then decide (n = 0) && nmdB s && decide (o = 0) && decide (m = 1)
 else if k = 3 then decide (n = 0) && decide (s = []) && decide (opS o ≠ []) && decide (m = 2)
 else false
def mayB : Nat → Xp → Bool
 | 0, _ => false
 | d + 1, .mk k n s o l => fitB k n s o l.length && l.all (mayB d)
def tellF : Nat → Xp → List Tk
 | 0, _ => []
 | d + 1, .mk k n s o l =>
  if k = 1 then [⟨3, [], n⟩]
  else if k = 2 then [nmT s]
  else if k = 4 then [sg [35], nmT s]
  else if k = 5 then nmT s :: sg [91] :: (tellF d (l.getD 0 x0) ++ [sg [93]])
  else sg [40] :: (tellF d (l.getD 0 x0) ++ sg (opS o) :: (tellF d (l.getD 1 x0) ++ [sg [41]]))
inductive Ro
 | er (e p : Nat)
 | ok (x : Xp) (p : Nat)
def nameT (t : Tk) : Bool := decide (t.k = 1) && decide (t.n = 0) && nmdB t.t
def opOf (t : Tk) : Nat := if t.k = 4 ∧ t.n = 0 ∧ t.t ≠ [] then (opsL.findIdx? (fun x => decide (x = t.t))).getD 0 else 0
instance : DecidableEq Tk := fun a b => match a, b with
 | ⟨k, t, n⟩, ⟨k', t', n'⟩ => if h : k = k' ∧ t = t' ∧ n = n' then isTrue (by obtain ⟨rfl, rfl, rfl⟩ := h; rfl) else isFalse (fun e => h (by cases e; exact ⟨rfl, rfl, rfl⟩))
def rdE : Nat → List Tk → Nat → Ro
 | 0, _, p => .er 70 p
 | d + 1, T, p =>
  match T[p]? with
  | none => .er 7 p
  | some t =>
   if t.k = 3 then (if t.t = [] then .ok (.mk 1 t.n [] 0 []) (p + 1) else .er 7 p)
   else if t = sg [35] then
    (match T[p + 1]? with
    | none => .er 7 (p + 1)
    | some u => if nameT u = true then .ok (.mk 4 0 u.t 0 []) (p + 2) else .er 7 (p + 1))
   else if t = sg [40] then
    (match rdE d T (p + 1) with
    | .er e q => .er e q
    | .ok a q =>
     match T[q]? with
     | none => .er 7 q
     | some u => if opOf u = 0 then .er 7 q else
      match rdE d T (q + 1) with
      | .er e r => .er e r
      | .ok b r => if T[r]? = some (sg [41]) then .ok (.mk 3 0 [] (opOf u) [a, b]) (r + 1) else .er 7 r)
   else if nameT t = true then
    (if T[p + 1]? = some (sg [91]) then
     (match rdE d T (p + 2) with
     | .er e q => .er e q
     | .ok a q => if T[q]? = some (sg [93]) then .ok (.mk 5 0 t.t 0 [a]) (q + 1) else .er 7 q)
    else .ok (.mk 2 0 t.t 0 []) (p + 1))
   else .er 7 p
theorem fit1 {n : Nat} {s : List UInt8} {o m : Nat} (h : fitB 1 n s o m = true) : s = [] ∧ o = 0 ∧ m = 0 := by simpa [fitB, and_assoc] using h
theorem fit2 {n : Nat} {s : List UInt8} {o m : Nat} (h : fitB 2 n s o m = true) : n = 0 ∧ nmdB s = true ∧ o = 0 ∧ m = 0 := by simpa [fitB, and_assoc] using h
theorem fit4 {n : Nat} {s : List UInt8} {o m : Nat} (h : fitB 4 n s o m = true) : n = 0 ∧ nmdB s = true ∧ o = 0 ∧ m = 0 := by simpa [fitB, and_assoc] using h
theorem fit5 {n : Nat} {s : List UInt8} {o m : Nat} (h : fitB 5 n s o m = true) : n = 0 ∧ nmdB s = true ∧ o = 0 ∧ m = 1 := by simpa [fitB, and_assoc] using h
theorem fit3 {n : Nat} {s : List UInt8} {o m : Nat} (h : fitB 3 n s o m = true) : n = 0 ∧ s = [] ∧ opS o ≠ [] ∧ m = 2 := by simpa [fitB, and_assoc] using h
theorem fit_k {k n : Nat} {s : List UInt8} {o m : Nat} (h : fitB k n s o m = true) : k = 1 ∨ k = 2 ∨ k = 3 ∨ k = 4 ∨ k = 5 := by
 unfold fitB at h
 by_cases h1 : k = 1
 ·exact .inl h1
 ·rw [if_neg h1] at h
  by_cases h2 : k = 2 ∨ k = 4
  ·omega
  ·rw [if_neg h2] at h
   by_cases h5 : k = 5
   ·omega
   ·rw [if_neg h5] at h
    by_cases h3 : k = 3
    ·omega
    ·rw [if_neg h3] at h; cases h
end
section
open Go.ChangeShapes Go.WideShapes Go.ChangeAt Go.RowKit
def str (l : List UInt8) : ByteArray := ⟨l.toArray⟩
theorem str_size (a : List UInt8) : (str a).size = a.length := by simp [str, ByteArray.size]
theorem str_list (a : List UInt8) : (str a).data.toList = a := by simp [str]
theorem str_of (s : ByteArray) : str s.data.toList = s := by cases s; simp [str]
theorem stay {w w' : World} (hb : Below w.heap.size w w') {p : Addr} {v : Value} (h : w.cell? p = some v) : w'.cell? p = some v := (hb.cell (World.block_lt_of_cell? w _ h)).trans h
def laidPl : List (String × DataW Unit) := [("math/bits.deBruijn32tab", Rows.laid_math_bits_deBruijn32tab), ("math/bits.deBruijn64tab", Rows.laid_math_bits_deBruijn64tab), ("internal/strconv.uint64pow10", Rows.laid_internal_strconv_uint64pow10), ("strconv.ErrRange", Rows.laid_strconv_ErrRange), ("strconv.ErrSyntax", Rows.laid_strconv_ErrSyntax), ("sacristy/lex.words", Rows.laid_sacristy_lex_words), ("sacristy/lex.signs", Rows.laid_sacristy_lex_signs), ("sacristy/expr.signs", Rows.laid_sacristy_expr_signs), ("sacristy/stmt.kinds", Rows.laid_sacristy_stmt_kinds)]
def laidAll : List (String × DataW Unit) := [("math/bits.deBruijn32tab", Rows.laid_math_bits_deBruijn32tab), ("math/bits.deBruijn64tab", Rows.laid_math_bits_deBruijn64tab), ("internal/strconv.uint64pow10", Rows.laid_internal_strconv_uint64pow10), ("errors.errorType", Rows.laid_errors_errorType), ("strconv.ErrRange", Rows.laid_strconv_ErrRange), ("strconv.ErrSyntax", Rows.laid_strconv_ErrSyntax), ("sacristy/lex.words", Rows.laid_sacristy_lex_words), ("sacristy/lex.signs", Rows.laid_sacristy_lex_signs), ("sacristy/expr.signs", Rows.laid_sacristy_expr_signs), ("sacristy/stmt.kinds", Rows.laid_sacristy_stmt_kinds)]
def WordsOk (w : World) : Prop := ∀ j < 16, w.cell? ⟨4, j, none⟩ = some (.string (str (wordsL.getD j [])))
def SignsOk (w : World) : Prop := ∀ j < 25, w.cell? ⟨2, j, none⟩ = some (.string (str (signsL.getD j [])))
def ESignsOk (w : World) : Prop := ∀ j < 15, w.cell? ⟨9, j, none⟩ = some (.string (str (opsL.getD j [])))
def kindsN : List (Nat × Nat × Bool × Bool × Int × Int × Int × Bool × Bool) := [(0, 0, false, false, 0, 0, 0, false, false), (2, 0, true, false, 1, 1, 0, false, false), (2, 0, false, false, 1, 1, 0, false, false), (2, 0, true, false, 1, 1, 0, false, false), (2, 0, false, false, 2, 2, 0, false, false), (0, 0, false, false, 1, 1, 0, true, true), (0, 0, false, false, 1, 1, 0, true, false), (2, 0, false, false, 1, 1, 0, true, false), (2, 2, false, true, 2, 2, 0, true, false), (2, 2, false, false, 0, 0, 0, false, false), (2, 0, false, false, 1, 1, 0, false, false), (1, 2, false, false, 0, 8, 8, false, false), (0, 0, false, false, 0, 0, 0, false, false)]
def kindsC : List Value := kindsN.flatMap fun x => [.int .u8 (x.1 : Int), .int .u8 (x.2.1 : Int), .bool x.2.2.1, .bool x.2.2.2.1, .int .i64 x.2.2.2.2.1, .int .i64 x.2.2.2.2.2.1, .int .i64 x.2.2.2.2.2.2.1, .bool x.2.2.2.2.2.2.2.1, .bool x.2.2.2.2.2.2.2.2]
def KindsOk (w : World) : Prop := ∀ j < 117, w.cell? ⟨1, j, none⟩ = some (kindsC.getD j (.bool false))
def PowOk (w : World) : Prop := Lib.TabIs Tryz.prog w "internal/strconv.uint64pow10" .u64 Lib.pow10Tab
def EtyOk (w : World) : Prop := w.cell? ⟨0, 0, none⟩ = some (.iface 182 (.agg #[.pointer (some ⟨12, 35, none⟩)]))
def SynOk (w : World) : Prop := ∃ tp p, w.var? Tryz.prog "strconv.ErrSyntax" = some #[.iface tp p]
def RanOk (w : World) : Prop := ∃ tp p, w.var? Tryz.prog "strconv.ErrRange" = some #[.iface tp p]
structure Tb (w : World) : Prop where
 words : WordsOk w
 signs : SignsOk w
 pow : PowOk w
 ety : EtyOk w
 syn : SynOk w
 ran : RanOk w
 esg : ESignsOk w
 kn : KindsOk w
theorem var_stay {w w' : World} (hb : Below w.heap.size w w') {n : String} {cs : Array Value} (h : w.var? Tryz.prog n = some cs) : w'.var? Tryz.prog n = some cs := by
 unfold World.var? at h ⊢
 cases hg : Tryz.prog.globalNamed n with
 | none => rw [hg] at h; simp at h
 | some g =>
  rw [hg] at h
  simp only [Option.bind_some] at h ⊢
  have hlt : g < w.heap.size := by
   rcases Nat.lt_or_ge g w.heap.size with h1 | h1
   ·exact h1
   ·rw [Array.getElem?_eq_none h1] at h; simp at h
  rw [hb.block g hlt]
  exact h
theorem Tb.of {w w' : World} (h : Tb w) (hb : Below w.heap.size w w') : Tb w' :=
 ⟨fun j hj => stay hb (h.words j hj), fun j hj => stay hb (h.signs j hj), var_stay hb h.pow, stay hb h.ety, let ⟨a, b, c⟩ := h.syn; ⟨a, b, var_stay hb c⟩, let ⟨a, b, c⟩ := h.ran; ⟨a, b, var_stay hb c⟩, fun j hj => stay hb (h.esg j hj), fun j hj => stay hb (h.kn j hj)⟩
theorem bdN {B : Nat} {a w : World} (h : Below B a w) (n : Nat) : Below B a (w.drewN n) := h.trans ⟨rfl, rfl, rfl, Nat.le_refl _, fun _ _ => rfl⟩
theorem Tb.alloc {w : World} (h : Tb w) (o : Obj) : Tb (w.alloc o) := h.of ((Below.refl _ _).alloc (Nat.le_refl _) _)
theorem Tb.drewN {w : World} (h : Tb w) (n : Nat) : Tb (w.drewN n) := h.of (bdN (Below.refl _ _) n)
theorem gWords : Tryz.prog.globalNamed "sacristy/lex.words" = some 4 := by kernel_rfl
theorem gSigns : Tryz.prog.globalNamed "sacristy/lex.signs" = some 2 := by kernel_rfl
theorem tWords : (Tryz.prog.globals[4]?).map (·.type) = some 216 := by kernel_rfl
theorem gESigns : Tryz.prog.globalNamed "sacristy/expr.signs" = some 9 := by kernel_rfl
theorem tESigns : (Tryz.prog.globals[9]?).map (·.type) = some 256 := by kernel_rfl
theorem tSigns : (Tryz.prog.globals[2]?).map (·.type) = some 180 := by kernel_rfl
theorem gKinds : Tryz.prog.globalNamed "sacristy/stmt.kinds" = some 1 := by kernel_rfl
theorem tKinds : (Tryz.prog.globals[1]?).map (·.type) = some 177 := by kernel_rfl
def kindsLv : List (Nat × Value) := (List.range 117).flatMap fun j => [(j, kindsC.getD j (.bool false))]
theorem lKinds : leaves Tryz.prog 5 177 0 Rows.laid_sacristy_stmt_kinds = some kindsLv := by kernel_rfl
def wordsLv : List (Nat × Value) := (List.range 16).flatMap fun j => [(j, .string (str (wordsL.getD j [])))]
def signsLv : List (Nat × Value) := (List.range 25).flatMap fun j => [(j, .string (str (signsL.getD j [])))]
def esignsLv : List (Nat × Value) := (List.range 15).flatMap fun j => [(j, .string (str (opsL.getD j [])))]
theorem lESigns : leaves Tryz.prog 5 256 0 Rows.laid_sacristy_expr_signs = some esignsLv := by kernel_rfl
theorem lWords : leaves Tryz.prog 5 216 0 Rows.laid_sacristy_lex_words = some wordsLv := by kernel_rfl
theorem lSigns : leaves Tryz.prog 5 180 0 Rows.laid_sacristy_lex_signs = some signsLv := by kernel_rfl
theorem words_of {L : List (String × DataW Unit)} (hs : ∀ x ∈ laidPl, x ∈ L) {W : World} (h : laidMet Tryz.prog L W) : WordsOk W := fun k hk => by
 obtain ⟨ps, hv, _⟩ := h
 have hl := laidVars_leaves "sacristy/lex.words" Rows.laid_sacristy_lex_words 4 216 5 wordsLv gWords tWords lWords _ ps (hs _ (List.Mem.tail _ (List.Mem.tail _ (List.Mem.tail _ (List.Mem.tail _ (List.Mem.tail _ (List.Mem.head _))))))) hv
 exact hl _ (List.mem_flatMap.2 ⟨k, List.mem_range.2 hk, List.Mem.head _⟩)
theorem signs_of {L : List (String × DataW Unit)} (hs : ∀ x ∈ laidPl, x ∈ L) {W : World} (h : laidMet Tryz.prog L W) : SignsOk W := fun k hk => by
 obtain ⟨ps, hv, _⟩ := h
 have hl := laidVars_leaves "sacristy/lex.signs" Rows.laid_sacristy_lex_signs 2 180 5 signsLv gSigns tSigns lSigns _ ps (hs _ (List.Mem.tail _ (List.Mem.tail _ (List.Mem.tail _ (List.Mem.tail _ (List.Mem.tail _ (List.Mem.tail _ (List.Mem.head _)))))))) hv
 exact hl _ (List.mem_flatMap.2 ⟨k, List.mem_range.2 hk, List.Mem.head _⟩)
theorem esigns_of {L : List (String × DataW Unit)} (hs : ∀ x ∈ laidPl, x ∈ L) {W : World} (h : laidMet Tryz.prog L W) : ESignsOk W := fun k hk => by
 obtain ⟨ps, hv, _⟩ := h
 have hl := laidVars_leaves "sacristy/expr.signs" Rows.laid_sacristy_expr_signs 9 256 5 esignsLv gESigns tESigns lESigns _ ps (hs _ (List.Mem.tail _ (List.Mem.tail _ (List.Mem.tail _ (List.Mem.tail _ (List.Mem.tail _ (List.Mem.tail _ (List.Mem.tail _ (List.Mem.head _))))))))) hv
 exact hl _ (List.mem_flatMap.2 ⟨k, List.mem_range.2 hk, List.Mem.head _⟩)
theorem kinds_of {L : List (String × DataW Unit)} (hs : ∀ x ∈ laidPl, x ∈ L) {W : World} (h : laidMet Tryz.prog L W) : KindsOk W := fun k hk => by
 obtain ⟨ps, hv, _⟩ := h
 have hl := laidVars_leaves "sacristy/stmt.kinds" Rows.laid_sacristy_stmt_kinds 1 177 5 kindsLv gKinds tKinds lKinds _ ps (hs _ (List.Mem.tail _ (List.Mem.tail _ (List.Mem.tail _ (List.Mem.tail _ (List.Mem.tail _ (List.Mem.tail _ (List.Mem.tail _ (List.Mem.tail _ (List.Mem.head _)))))))))) hv
 exact hl _ (List.mem_flatMap.2 ⟨k, List.mem_range.2 hk, List.Mem.head _⟩)
theorem pow_of {L : List (String × DataW Unit)} (hs : ∀ x ∈ laidPl, x ∈ L) {W : World} (h : laidMet Tryz.prog L W) : PowOk W := by
 obtain ⟨ps, hv, _⟩ := h
 exact laidVars_tab "internal/strconv.uint64pow10" .u64 Lib.pow10Tab 5 224 45 20 (by kernel_rfl) (by kernel_rfl) (by kernel_rfl) (by kernel_rfl) (by kernel_rfl) (by kernel_rfl) _ ps (hs _ (List.Mem.tail _ (List.Mem.tail _ (List.Mem.head _)))) hv
theorem laidVars_iface {w : World} (nm : String) (d : DataW Unit) (un : String) (g : Nat) (t : TypeId) (ms : Array (String × TypeId))
  (hg : Tryz.prog.globalNamed nm = some g) (ht : (Tryz.prog.globals[g]?).map (·.type) = some t) (hi : Tryz.prog.underlying t = some (.interface ms)) :
  ∀ (l : List (String × DataW Unit)) (ps : List MemPlace), (nm, DataW.iface un d) ∈ l → DataW.LaidVars Tryz.prog w l ps → ∃ tp p, w.var? Tryz.prog nm = some #[.iface tp p] := by
 intro l
 induction l with
 | nil => intro ps h; cases h
 | cons y r ih =>
  intro ps hm hv
  obtain ⟨g0, t0, cs, fuel, p, q, hg0, ht0, hvar, hd, hr, _⟩ := hv
  rcases List.mem_cons.1 hm with rfl | hm'
  ·obtain rfl := Option.some.inj (hg.symm.trans hg0)
   obtain rfl := Option.some.inj (ht.symm.trans ht0)
   obtain ⟨_, u, v, e, _⟩ := iface_of_trod hi hd
   exact ⟨u, v, by rw [hvar, Array.eq_one_of_toList e]⟩
  ·exact ih q hm' hr
theorem syn_of {L : List (String × DataW Unit)} (hs : ∀ x ∈ laidPl, x ∈ L) {W : World} (h : laidMet Tryz.prog L W) : SynOk W := by
 obtain ⟨ps, hv, _⟩ := h
 exact laidVars_iface "strconv.ErrSyntax" _ _ 7 35 _ (by kernel_rfl) (by kernel_rfl) Tryz.underlying35 _ ps (hs _ (List.Mem.tail _ (List.Mem.tail _ (List.Mem.tail _ (List.Mem.tail _ (List.Mem.head _)))))) hv
theorem ran_of {L : List (String × DataW Unit)} (hs : ∀ x ∈ laidPl, x ∈ L) {W : World} (h : laidMet Tryz.prog L W) : RanOk W := by
 obtain ⟨ps, hv, _⟩ := h
 exact laidVars_iface "strconv.ErrRange" _ _ 8 35 _ (by kernel_rfl) (by kernel_rfl) Tryz.underlying35 _ ps (hs _ (List.Mem.tail _ (List.Mem.tail _ (List.Mem.tail _ (List.Mem.head _))))) hv
theorem etG : Tryz.prog.globalNamed "errors.errorType" = some 0 := by kernel_rfl
theorem rtT : (Tryz.prog.cutTypes.find? (·.1 == "internal/reflectlite.rtype")).map (·.2) = some 182 := by kernel_rfl
theorem oneRow : ((List.range Tryz.prog.types.size).filter fun t => Tryz.prog.rowNamed t [101, 114, 114, 111, 114]) = [35] := by kernel_rfl
theorem ety_of {W : World} (h : handlesMet Tryz.prog [("errors.errorType", Rows.laid_errors_errorType)] W) : EtyOk W := by
 obtain ⟨name, u, ty, e1, e2, e3, e4, e5⟩ := h _ (List.mem_singleton.2 rfl)
 have en : name = [101, 114, 114, 111, 114] := (Option.some.inj e1).symm
 subst en
 obtain rfl := Option.some.inj (rtT.symm.trans e2)
 have hm : ty ∈ (List.range Tryz.prog.types.size).filter fun t => Tryz.prog.rowNamed t [101, 114, 114, 111, 114] := List.mem_filter.2 ⟨List.mem_range.2 e3, e4⟩
 rw [oneRow] at hm
 obtain rfl := List.mem_singleton.1 hm
 have hh : typeHandle Tryz.prog 35 = .pointer (some ⟨Tryz.prog.globals.size, 35, none⟩) := rfl
 rw [hh] at e5
 have hs : Tryz.prog.globals.size = 12 := by kernel_rfl
 rw [hs] at e5
 unfold EtyOk
 simpa using World.var?_cell etG e5 0
end
end Go.Proofs.YtkibkaoffgnmkaaGreatDoor
