/- The laid variables of package lex, and those of the library that it stands on: what they hold at a call's beginning, and that calls keep it. -/
import Derived.Test.YtnblnmehfhkfmaaGreatDoorLay
import Derived.Test.YtnblnmehfhkfmaaGreatDoorEa
import Derived.Test.YtnblnmehfhkfmaaGreatDoorShelf
import Derived.LaidLaws
import Derived.LaidHandle
import Derived.Stop.Joined
import Derived.ProofKit
import Derived.OpenShut
import Derived.LaidMore
import Derived.Handy
namespace Go.Proofs.YtnblnmehfhkfmaaGreatDoor
open Go.ChangeShapes Go.WideShapes Go.ChangeAt Go.RowKit
set_option linter.unusedVariables false
def str (l : List UInt8) : ByteArray := ⟨l.toArray⟩
theorem str_app (a b : List UInt8) : str a ++ str b = str (a ++ b) := by
  apply ByteArray.ext
  simp [str]
theorem str_size (a : List UInt8) : (str a).size = a.length := by simp [str, ByteArray.size]
theorem str_list (a : List UInt8) : (str a).data.toList = a := by simp [str]
theorem str_of (s : ByteArray) : str s.data.toList = s := by cases s; simp [str]
theorem stay {w w' : World} (hb : Below w.heap.size w w') {p : Addr} {v : Value} (h : w.cell? p = some v) : w'.cell? p = some v := (hb.cell (World.block_lt_of_cell? w _ h)).trans h
def laidPl : List (String × DataW Unit) := [("math/bits.deBruijn32tab", Rows.laid_math_bits_deBruijn32tab), ("math/bits.deBruijn64tab", Rows.laid_math_bits_deBruijn64tab), ("internal/strconv.uint64pow10", Rows.laid_internal_strconv_uint64pow10), ("strconv.ErrRange", Rows.laid_strconv_ErrRange), ("strconv.ErrSyntax", Rows.laid_strconv_ErrSyntax), ("sacristy/lex.words", Rows.laid_sacristy_lex_words), ("sacristy/lex.signs", Rows.laid_sacristy_lex_signs), ("sacristy/expr.signs", Rows.laid_sacristy_expr_signs)]
def laidAll : List (String × DataW Unit) := [("math/bits.deBruijn32tab", Rows.laid_math_bits_deBruijn32tab), ("math/bits.deBruijn64tab", Rows.laid_math_bits_deBruijn64tab), ("internal/strconv.uint64pow10", Rows.laid_internal_strconv_uint64pow10), ("errors.errorType", Rows.laid_errors_errorType), ("strconv.ErrRange", Rows.laid_strconv_ErrRange), ("strconv.ErrSyntax", Rows.laid_strconv_ErrSyntax), ("sacristy/lex.words", Rows.laid_sacristy_lex_words), ("sacristy/lex.signs", Rows.laid_sacristy_lex_signs), ("sacristy/expr.signs", Rows.laid_sacristy_expr_signs)]
theorem laid_split {W : World} (h : laidMetH Tryz.prog laidAll W) : laidMet Tryz.prog laidPl W ∧ handlesMet Tryz.prog [("errors.errorType", Rows.laid_errors_errorType)] W := h
def WordsOk (w : World) : Prop := ∀ j < 16, w.cell? ⟨3, j, none⟩ = some (.string (str (wordsL.getD j [])))
def SignsOk (w : World) : Prop := ∀ j < 25, w.cell? ⟨2, j, none⟩ = some (.string (str (signsL.getD j [])))
def ESignsOk (w : World) : Prop := ∀ j < 15, w.cell? ⟨1, j, none⟩ = some (.string (str (opsL.getD j [])))
def PowOk (w : World) : Prop := Lib.TabIs Tryz.prog w "internal/strconv.uint64pow10" .u64 Lib.pow10Tab
def EtyOk (w : World) : Prop := w.cell? ⟨0, 0, none⟩ = some (.iface 100 (.agg #[.pointer (some ⟨9, 41, none⟩)]))
def SynOk (w : World) : Prop := ∃ tp p, w.var? Tryz.prog "strconv.ErrSyntax" = some #[.iface tp p]
def RanOk (w : World) : Prop := ∃ tp p, w.var? Tryz.prog "strconv.ErrRange" = some #[.iface tp p]
/-- All laid variables read as they were laid. -/
structure Tb (w : World) : Prop where
  words : WordsOk w
  signs : SignsOk w
  pow : PowOk w
  ety : EtyOk w
  syn : SynOk w
  ran : RanOk w
  esg : ESignsOk w
theorem var_stay {w w' : World} (hb : Below w.heap.size w w') {n : String} {cs : Array Value} (h : w.var? Tryz.prog n = some cs) : w'.var? Tryz.prog n = some cs := by
  unfold World.var? at h ⊢
  cases hg : Tryz.prog.globalNamed n with
  | none => rw [hg] at h; simp at h
  | some g =>
    rw [hg] at h
    simp only [Option.bind_some] at h ⊢
    have hlt : g < w.heap.size := by
      rcases Nat.lt_or_ge g w.heap.size with h1 | h1
      · exact h1
      · rw [Array.getElem?_eq_none h1] at h; simp at h
    rw [hb.block g hlt]
    exact h
theorem Tb.of {w w' : World} (h : Tb w) (hb : Below w.heap.size w w') : Tb w' :=
  ⟨fun j hj => stay hb (h.words j hj), fun j hj => stay hb (h.signs j hj), var_stay hb h.pow, stay hb h.ety, let ⟨a, b, c⟩ := h.syn; ⟨a, b, var_stay hb c⟩, let ⟨a, b, c⟩ := h.ran; ⟨a, b, var_stay hb c⟩, fun j hj => stay hb (h.esg j hj)⟩
theorem bdN {B : Nat} {a w : World} (h : Below B a w) (n : Nat) : Below B a (w.drewN n) := h.trans ⟨rfl, rfl, rfl, Nat.le_refl _, fun _ _ => rfl⟩
theorem Tb.alloc {w : World} (h : Tb w) (o : Obj) : Tb (w.alloc o) := h.of ((Below.refl _ _).alloc (Nat.le_refl _) _)
theorem Tb.drewN {w : World} (h : Tb w) (n : Nat) : Tb (w.drewN n) := h.of (bdN (Below.refl _ _) n)
theorem gWords : Tryz.prog.globalNamed "sacristy/lex.words" = some 3 := by kernel_rfl
theorem gSigns : Tryz.prog.globalNamed "sacristy/lex.signs" = some 2 := by kernel_rfl
theorem tWords : (Tryz.prog.globals[3]?).map (·.type) = some 121 := by kernel_rfl
theorem gESigns : Tryz.prog.globalNamed "sacristy/expr.signs" = some 1 := by kernel_rfl
theorem tESigns : (Tryz.prog.globals[1]?).map (·.type) = some 96 := by kernel_rfl
theorem tSigns : (Tryz.prog.globals[2]?).map (·.type) = some 118 := by kernel_rfl
def wordsLv : List (Nat × Value) := (List.range 16).flatMap fun j => [(j, .string (str (wordsL.getD j [])))]
def signsLv : List (Nat × Value) := (List.range 25).flatMap fun j => [(j, .string (str (signsL.getD j [])))]
def esignsLv : List (Nat × Value) := (List.range 15).flatMap fun j => [(j, .string (str (opsL.getD j [])))]
theorem lESigns : leaves Tryz.prog 5 96 0 Rows.laid_sacristy_expr_signs = some esignsLv := by kernel_rfl
theorem lWords : leaves Tryz.prog 5 121 0 Rows.laid_sacristy_lex_words = some wordsLv := by kernel_rfl
theorem lSigns : leaves Tryz.prog 5 118 0 Rows.laid_sacristy_lex_signs = some signsLv := by kernel_rfl
theorem words_of {W : World} (h : laidMet Tryz.prog laidPl W) : WordsOk W := fun k hk => by
  obtain ⟨ps, hv, _⟩ := h
  have hl := laidVars_leaves "sacristy/lex.words" Rows.laid_sacristy_lex_words 3 121 5 wordsLv gWords tWords lWords _ ps (List.Mem.tail _ (List.Mem.tail _ (List.Mem.tail _ (List.Mem.tail _ (List.Mem.tail _ (List.Mem.head _)))))) hv
  exact hl _ (List.mem_flatMap.2 ⟨k, List.mem_range.2 hk, List.Mem.head _⟩)
theorem signs_of {W : World} (h : laidMet Tryz.prog laidPl W) : SignsOk W := fun k hk => by
  obtain ⟨ps, hv, _⟩ := h
  have hl := laidVars_leaves "sacristy/lex.signs" Rows.laid_sacristy_lex_signs 2 118 5 signsLv gSigns tSigns lSigns _ ps (List.Mem.tail _ (List.Mem.tail _ (List.Mem.tail _ (List.Mem.tail _ (List.Mem.tail _ (List.Mem.tail _ (List.Mem.head _))))))) hv
  exact hl _ (List.mem_flatMap.2 ⟨k, List.mem_range.2 hk, List.Mem.head _⟩)
theorem esigns_of {W : World} (h : laidMet Tryz.prog laidPl W) : ESignsOk W := fun k hk => by
  obtain ⟨ps, hv, _⟩ := h
  have hl := laidVars_leaves "sacristy/expr.signs" Rows.laid_sacristy_expr_signs 1 96 5 esignsLv gESigns tESigns lESigns _ ps (List.Mem.tail _ (List.Mem.tail _ (List.Mem.tail _ (List.Mem.tail _ (List.Mem.tail _ (List.Mem.tail _ (List.Mem.tail _ (List.Mem.head _)))))))) hv
  exact hl _ (List.mem_flatMap.2 ⟨k, List.mem_range.2 hk, List.Mem.head _⟩)
theorem pow_of {W : World} (h : laidMet Tryz.prog laidPl W) : PowOk W := by
  obtain ⟨ps, hv, _⟩ := h
  exact laidVars_tab "internal/strconv.uint64pow10" .u64 Lib.pow10Tab 6 148 22 20 (by kernel_rfl) (by kernel_rfl) (by kernel_rfl) (by kernel_rfl) (by kernel_rfl) (by kernel_rfl) _ ps (List.Mem.tail _ (List.Mem.tail _ (List.Mem.head _))) hv
/-- A laid interface value is there. -/
theorem laidVars_iface {w : World} (nm : String) (d : DataW Unit) (un : String) (g : Nat) (t : TypeId) (ms : Array (String × TypeId))
    (hg : Tryz.prog.globalNamed nm = some g) (ht : (Tryz.prog.globals[g]?).map (·.type) = some t) (hi : Tryz.prog.underlying t = some (.interface ms)) :
    ∀ (l : List (String × DataW Unit)) (ps : List MemPlace), (nm, DataW.iface un d) ∈ l → DataW.LaidVars Tryz.prog w l ps → ∃ tp p, w.var? Tryz.prog nm = some #[.iface tp p] := by
  intro l
  induction l with
  | nil => intro ps h; cases h
  | cons y r ih =>
    intro ps hm hv
    obtain ⟨g0, t0, cs, fuel, p, q, hg0, ht0, hvar, hd, hr, _⟩ := hv
    rcases List.mem_cons.1 hm with rfl | hm'
    · obtain rfl := Option.some.inj (hg.symm.trans hg0)
      obtain rfl := Option.some.inj (ht.symm.trans ht0)
      obtain ⟨_, u, v, e, _⟩ := iface_of_trod hi hd
      exact ⟨u, v, by rw [hvar, Array.eq_one_of_toList e]⟩
    · exact ih q hm' hr
theorem syn_of {W : World} (h : laidMet Tryz.prog laidPl W) : SynOk W := by
  obtain ⟨ps, hv, _⟩ := h
  exact laidVars_iface "strconv.ErrSyntax" _ _ 4 41 _ (by kernel_rfl) (by kernel_rfl) Tryz.underlying41 _ ps (List.Mem.tail _ (List.Mem.tail _ (List.Mem.tail _ (List.Mem.tail _ (List.Mem.head _))))) hv
theorem ran_of {W : World} (h : laidMet Tryz.prog laidPl W) : RanOk W := by
  obtain ⟨ps, hv, _⟩ := h
  exact laidVars_iface "strconv.ErrRange" _ _ 5 41 _ (by kernel_rfl) (by kernel_rfl) Tryz.underlying41 _ ps (List.Mem.tail _ (List.Mem.tail _ (List.Mem.tail _ (List.Mem.head _)))) hv
theorem etG : Tryz.prog.globalNamed "errors.errorType" = some 0 := by kernel_rfl
theorem rtT : (Tryz.prog.cutTypes.find? (·.1 == "internal/reflectlite.rtype")).map (·.2) = some 100 := by kernel_rfl
theorem oneRow : ((List.range Tryz.prog.types.size).filter fun t => Tryz.prog.rowNamed t [101, 114, 114, 111, 114]) = [41] := by kernel_rfl
theorem ety_of {W : World} (h : handlesMet Tryz.prog [("errors.errorType", Rows.laid_errors_errorType)] W) : EtyOk W := by
  obtain ⟨name, u, ty, e1, e2, e3, e4, e5⟩ := h _ (List.mem_singleton.2 rfl)
  have en : name = [101, 114, 114, 111, 114] := (Option.some.inj e1).symm
  subst en
  obtain rfl := Option.some.inj (rtT.symm.trans e2)
  have hm : ty ∈ (List.range Tryz.prog.types.size).filter fun t => Tryz.prog.rowNamed t [101, 114, 114, 111, 114] := List.mem_filter.2 ⟨List.mem_range.2 e3, e4⟩
  rw [oneRow] at hm
  obtain rfl := List.mem_singleton.1 hm
  have hh : typeHandle Tryz.prog 41 = .pointer (some ⟨Tryz.prog.globals.size, 41, none⟩) := rfl
  rw [hh] at e5
  have hs : Tryz.prog.globals.size = 9 := by kernel_rfl
  rw [hs] at e5
  unfold EtyOk
  simpa using World.var?_cell etG e5 0
theorem tb_of_laid {W : World} (h : laidMetH Tryz.prog laidAll W) : Tb W := by
  obtain ⟨h1, h2⟩ := laid_split h
  exact ⟨words_of h1, signs_of h1, pow_of h1, ety_of h2, syn_of h1, ran_of h1, esigns_of h1⟩
/-- The door's own heap meets the condition. -/
theorem door_met (os : Os) (args : Array Value) : laidMetH Tryz.prog laidAll ((World.doorLaid Tryz.prog 400 os).forCall (fun _ _ => 0) ⟨#[], args, []⟩).memory :=
  laidMetH_of_parts3 (fuel := 8) (laidMet_of_run' 8 (by kernel_rfl) (by kernel_rfl)) (by kernel_rfl) (by kernel_rfl)
end Go.Proofs.YtnblnmehfhkfmaaGreatDoor
