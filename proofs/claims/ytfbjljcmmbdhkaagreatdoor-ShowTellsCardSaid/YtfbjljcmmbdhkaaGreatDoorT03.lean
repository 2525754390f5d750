/- The laid variables of package lex, and those of the library that it stands on: what they hold at a call's beginning, and that calls keep it. -/
import Derived.Test.YtfbjljcmmbdhkaaGreatDoorT00
import Derived.Test.YtfbjljcmmbdhkaaGreatDoorShelf
import Derived.LaidLaws
import Derived.LaidHandle
import Derived.Stop.Joined
import Derived.ProofKit
import Derived.OpenShut
import Derived.LaidMore
import Derived.Handy
import Derived.Outline
import Derived.Deep.QuietTactic
import Derived.BigQuiet
import Derived.Lib.Hide
import Derived.Deep.MidRow
import Derived.WalkKit
import Derived.LaidEql
import Derived.Stop.Asserts
import Derived.RowKitTokens
import Derived.Lib.ItoaLen
import Derived.Shelf.Strconv.Itoa3
import Derived.Lib.AppendIntMem
namespace Go.Proofs.YtfbjljcmmbdhkaaGreatDoor
set_option linter.unusedVariables false
set_option linter.unusedSimpArgs false
set_option maxRecDepth 100000
set_option maxHeartbeats 200000000
section
open Go.ChangeShapes Go.WideShapes Go.ChangeAt Go.RowKit
def str (l : List UInt8) : ByteArray := ⟨l.toArray⟩
theorem str_app (a b : List UInt8) : str a ++ str b = str (a ++ b) := by
 apply ByteArray.ext
 simp [str]
theorem str_size (a : List UInt8) : (str a).size = a.length := by simp [str, ByteArray.size]
theorem str_list (a : List UInt8) : (str a).data.toList = a := by simp [str]
theorem str_of (s : ByteArray) : str s.data.toList = s := by cases s; simp [str]
theorem stay {w w' : World} (hb : Below w.heap.size w w') {p : Addr} {v : Value} (h : w.cell? p = some v) : w'.cell? p = some v := (hb.cell (World.block_lt_of_cell? w _ h)).trans h
def laidPl : List (String × DataW Unit) := [("math/bits.deBruijn32tab", Rows.laid_math_bits_deBruijn32tab), ("math/bits.deBruijn64tab", Rows.laid_math_bits_deBruijn64tab), ("internal/strconv.uint64pow10", Rows.laid_internal_strconv_uint64pow10), ("strconv.ErrRange", Rows.laid_strconv_ErrRange), ("strconv.ErrSyntax", Rows.laid_strconv_ErrSyntax), ("sacristy/lex.words", Rows.laid_sacristy_lex_words), ("sacristy/lex.signs", Rows.laid_sacristy_lex_signs), ("sacristy/expr.signs", Rows.laid_sacristy_expr_signs), ("sacristy/stmt.kinds", Rows.laid_sacristy_stmt_kinds)]
def laidAll : List (String × DataW Unit) := [("math/bits.deBruijn32tab", Rows.laid_math_bits_deBruijn32tab), ("math/bits.deBruijn64tab", Rows.laid_math_bits_deBruijn64tab), ("internal/strconv.uint64pow10", Rows.laid_internal_strconv_uint64pow10), ("errors.errorType", Rows.laid_errors_errorType), ("strconv.ErrRange", Rows.laid_strconv_ErrRange), ("strconv.ErrSyntax", Rows.laid_strconv_ErrSyntax), ("sacristy/lex.words", Rows.laid_sacristy_lex_words), ("sacristy/lex.signs", Rows.laid_sacristy_lex_signs), ("sacristy/expr.signs", Rows.laid_sacristy_expr_signs), ("sacristy/stmt.kinds", Rows.laid_sacristy_stmt_kinds)]
def WordsOk (w : World) : Prop := ∀ j < 16, w.cell? ⟨4, j, none⟩ = some (.string (str (wordsL.getD j [])))
def SignsOk (w : World) : Prop := ∀ j < 25, w.cell? ⟨2, j, none⟩ = some (.string (str (signsL.getD j [])))
def ESignsOk (w : World) : Prop := ∀ j < 15, w.cell? ⟨9, j, none⟩ = some (.string (str (opsL.getD j [])))
def kindsN : List (Nat × Nat × Bool × Bool × Int × Int × Int × Bool × Bool) := [(0, 0, false, false, 0, 0, 0, false, false), (2, 0, true, false, 1, 1, 0, false, false), (2, 0, false, false, 1, 1, 0, false, false), (2, 0, true, false, 1, 1, 0, false, false), (2, 0, false, false, 2, 2, 0, false, false), (0, 0, false, false, 1, 1, 0, true, true), (0, 0, false, false, 1, 1, 0, true, false), (2, 0, false, false, 1, 1, 0, true, false), (2, 2, false, true, 2, 2, 0, true, false), (2, 2, false, false, 0, 0, 0, false, false), (2, 0, false, false, 1, 1, 0, false, false), (1, 2, false, false, 0, 8, 8, false, false), (0, 0, false, false, 0, 0, 0, false, false)]
def kindsC : List Value := kindsN.flatMap fun x => [.int .u8 (x.1 : Int), .int .u8 (x.2.1 : Int), .bool x.2.2.1, .bool x.2.2.2.1, .int .i64 x.2.2.2.2.1, .int .i64 x.2.2.2.2.2.1, .int .i64 x.2.2.2.2.2.2.1, .bool x.2.2.2.2.2.2.2.1, .bool x.2.2.2.2.2.2.2.2]
def KindsOk (w : World) : Prop := ∀ j < 117, w.cell? ⟨1, j, none⟩ = some (kindsC.getD j (.bool false))
def PowOk (w : World) : Prop := Lib.TabIs Tryz.prog w "internal/strconv.uint64pow10" .u64 Lib.pow10Tab
def EtyOk (w : World) : Prop := w.cell? ⟨0, 0, none⟩ = some (.iface 182 (.agg #[.pointer (some ⟨12, 35, none⟩)]))
def SynOk (w : World) : Prop := ∃ tp p, w.var? Tryz.prog "strconv.ErrSyntax" = some #[.iface tp p]
def RanOk (w : World) : Prop := ∃ tp p, w.var? Tryz.prog "strconv.ErrRange" = some #[.iface tp p]
structure Tb (w : World) : Prop where
 words : WordsOk w
 signs : SignsOk w
 pow : PowOk w
 ety : EtyOk w
 syn : SynOk w
 ran : RanOk w
 esg : ESignsOk w
 kn : KindsOk w
theorem var_stay {w w' : World} (hb : Below w.heap.size w w') {n : String} {cs : Array Value} (h : w.var? Tryz.prog n = some cs) : w'.var? Tryz.prog n = some cs := by
 unfold World.var? at h ⊢
 cases hg : Tryz.prog.globalNamed n with
 | none => rw [hg] at h; simp at h
 | some g =>
  rw [hg] at h
  simp only [Option.bind_some] at h ⊢
  have hlt : g < w.heap.size := by
   rcases Nat.lt_or_ge g w.heap.size with h1 | h1
   ·exact h1
   ·rw [Array.getElem?_eq_none h1] at h; simp at h
  rw [hb.block g hlt]
  exact h
theorem Tb.of {w w' : World} (h : Tb w) (hb : Below w.heap.size w w') : Tb w' :=
 ⟨fun j hj => stay hb (h.words j hj), fun j hj => stay hb (h.signs j hj), var_stay hb h.pow, stay hb h.ety, let ⟨a, b, c⟩ := h.syn; ⟨a, b, var_stay hb c⟩, let ⟨a, b, c⟩ := h.ran; ⟨a, b, var_stay hb c⟩, fun j hj => stay hb (h.esg j hj), fun j hj => stay hb (h.kn j hj)⟩
theorem bdN {B : Nat} {a w : World} (h : Below B a w) (n : Nat) : Below B a (w.drewN n) := h.trans ⟨rfl, rfl, rfl, Nat.le_refl _, fun _ _ => rfl⟩
theorem Tb.alloc {w : World} (h : Tb w) (o : Obj) : Tb (w.alloc o) := h.of ((Below.refl _ _).alloc (Nat.le_refl _) _)
theorem Tb.drewN {w : World} (h : Tb w) (n : Nat) : Tb (w.drewN n) := h.of (bdN (Below.refl _ _) n)
theorem gWords : Tryz.prog.globalNamed "sacristy/lex.words" = some 4 := by kernel_rfl
theorem gSigns : Tryz.prog.globalNamed "sacristy/lex.signs" = some 2 := by kernel_rfl
theorem tWords : (Tryz.prog.globals[4]?).map (·.type) = some 216 := by kernel_rfl
theorem gESigns : Tryz.prog.globalNamed "sacristy/expr.signs" = some 9 := by kernel_rfl
theorem tESigns : (Tryz.prog.globals[9]?).map (·.type) = some 256 := by kernel_rfl
theorem tSigns : (Tryz.prog.globals[2]?).map (·.type) = some 180 := by kernel_rfl
theorem gKinds : Tryz.prog.globalNamed "sacristy/stmt.kinds" = some 1 := by kernel_rfl
theorem tKinds : (Tryz.prog.globals[1]?).map (·.type) = some 177 := by kernel_rfl
def kindsLv : List (Nat × Value) := (List.range 117).flatMap fun j => [(j, kindsC.getD j (.bool false))]
theorem lKinds : leaves Tryz.prog 5 177 0 Rows.laid_sacristy_stmt_kinds = some kindsLv := by kernel_rfl
def wordsLv : List (Nat × Value) := (List.range 16).flatMap fun j => [(j, .string (str (wordsL.getD j [])))]
def signsLv : List (Nat × Value) := (List.range 25).flatMap fun j => [(j, .string (str (signsL.getD j [])))]
def esignsLv : List (Nat × Value) := (List.range 15).flatMap fun j => [(j, .string (str (opsL.getD j [])))]
theorem lESigns : leaves Tryz.prog 5 256 0 Rows.laid_sacristy_expr_signs = some esignsLv := by kernel_rfl
theorem lWords : leaves Tryz.prog 5 216 0 Rows.laid_sacristy_lex_words = some wordsLv := by kernel_rfl
theorem lSigns : leaves Tryz.prog 5 180 0 Rows.laid_sacristy_lex_signs = some signsLv := by kernel_rfl
theorem words_of {L : List (String × DataW Unit)} (hs : ∀ x ∈ laidPl, x ∈ L) {W : World} (h : laidMet Tryz.prog L W) : WordsOk W := fun k hk => by
 obtain ⟨ps, hv, _⟩ := h
 have hl := laidVars_leaves "sacristy/lex.words" Rows.laid_sacristy_lex_words 4 216 5 wordsLv gWords tWords lWords _ ps (hs _ (List.Mem.tail _ (List.Mem.tail _ (List.Mem.tail _ (List.Mem.tail _ (List.Mem.tail _ (List.Mem.head _))))))) hv
 exact hl _ (List.mem_flatMap.2 ⟨k, List.mem_range.2 hk, List.Mem.head _⟩)
theorem signs_of {L : List (String × DataW Unit)} (hs : ∀ x ∈ laidPl, x ∈ L) {W : World} (h : laidMet Tryz.prog L W) : SignsOk W := fun k hk => by
 obtain ⟨ps, hv, _⟩ := h
 have hl := laidVars_leaves "sacristy/lex.signs" Rows.laid_sacristy_lex_signs 2 180 5 signsLv gSigns tSigns lSigns _ ps (hs _ (List.Mem.tail _ (List.Mem.tail _ (List.Mem.tail _ (List.Mem.tail _ (List.Mem.tail _ (List.Mem.tail _ (List.Mem.head _)))))))) hv
 exact hl _ (List.mem_flatMap.2 ⟨k, List.mem_range.2 hk, List.Mem.head _⟩)
theorem esigns_of {L : List (String × DataW Unit)} (hs : ∀ x ∈ laidPl, x ∈ L) {W : World} (h : laidMet Tryz.prog L W) : ESignsOk W := fun k hk => by
 obtain ⟨ps, hv, _⟩ := h
 have hl := laidVars_leaves "sacristy/expr.signs" Rows.laid_sacristy_expr_signs 9 256 5 esignsLv gESigns tESigns lESigns _ ps (hs _ (List.Mem.tail _ (List.Mem.tail _ (List.Mem.tail _ (List.Mem.tail _ (List.Mem.tail _ (List.Mem.tail _ (List.Mem.tail _ (List.Mem.head _))))))))) hv
 exact hl _ (List.mem_flatMap.2 ⟨k, List.mem_range.2 hk, List.Mem.head _⟩)
theorem kinds_of {L : List (String × DataW Unit)} (hs : ∀ x ∈ laidPl, x ∈ L) {W : World} (h : laidMet Tryz.prog L W) : KindsOk W := fun k hk => by
 obtain ⟨ps, hv, _⟩ := h
 have hl := laidVars_leaves "sacristy/stmt.kinds" Rows.laid_sacristy_stmt_kinds 1 177 5 kindsLv gKinds tKinds lKinds _ ps (hs _ (List.Mem.tail _ (List.Mem.tail _ (List.Mem.tail _ (List.Mem.tail _ (List.Mem.tail _ (List.Mem.tail _ (List.Mem.tail _ (List.Mem.tail _ (List.Mem.head _)))))))))) hv
 exact hl _ (List.mem_flatMap.2 ⟨k, List.mem_range.2 hk, List.Mem.head _⟩)
theorem pow_of {L : List (String × DataW Unit)} (hs : ∀ x ∈ laidPl, x ∈ L) {W : World} (h : laidMet Tryz.prog L W) : PowOk W := by
 obtain ⟨ps, hv, _⟩ := h
 exact laidVars_tab "internal/strconv.uint64pow10" .u64 Lib.pow10Tab 5 224 45 20 (by kernel_rfl) (by kernel_rfl) (by kernel_rfl) (by kernel_rfl) (by kernel_rfl) (by kernel_rfl) _ ps (hs _ (List.Mem.tail _ (List.Mem.tail _ (List.Mem.head _)))) hv
theorem laidVars_iface {w : World} (nm : String) (d : DataW Unit) (un : String) (g : Nat) (t : TypeId) (ms : Array (String × TypeId))
 (hg : Tryz.prog.globalNamed nm = some g) (ht : (Tryz.prog.globals[g]?).map (·.type) = some t) (hi : Tryz.prog.underlying t = some (.interface ms)) :
 ∀ (l : List (String × DataW Unit)) (ps : List MemPlace), (nm, DataW.iface un d) ∈ l → DataW.LaidVars Tryz.prog w l ps → ∃ tp p, w.var? Tryz.prog nm = some #[.iface tp p] := by
 intro l
 induction l with
 | nil => intro ps h; cases h
 | cons y r ih =>
  intro ps hm hv
  obtain ⟨g0, t0, cs, fuel, p, q, hg0, ht0, hvar, hd, hr, _⟩ := hv
  rcases List.mem_cons.1 hm with rfl | hm'
  ·obtain rfl := Option.some.inj (hg.symm.trans hg0)
   obtain rfl := Option.some.inj (ht.symm.trans ht0)
   obtain ⟨_, u, v, e, _⟩ := iface_of_trod hi hd
   exact ⟨u, v, by rw [hvar, Array.eq_one_of_toList e]⟩
  ·exact ih q hm' hr
theorem syn_of {L : List (String × DataW Unit)} (hs : ∀ x ∈ laidPl, x ∈ L) {W : World} (h : laidMet Tryz.prog L W) : SynOk W := by
 obtain ⟨ps, hv, _⟩ := h
 exact laidVars_iface "strconv.ErrSyntax" _ _ 7 35 _ (by kernel_rfl) (by kernel_rfl) Tryz.underlying35 _ ps (hs _ (List.Mem.tail _ (List.Mem.tail _ (List.Mem.tail _ (List.Mem.tail _ (List.Mem.head _)))))) hv
theorem ran_of {L : List (String × DataW Unit)} (hs : ∀ x ∈ laidPl, x ∈ L) {W : World} (h : laidMet Tryz.prog L W) : RanOk W := by
 obtain ⟨ps, hv, _⟩ := h
 exact laidVars_iface "strconv.ErrRange" _ _ 8 35 _ (by kernel_rfl) (by kernel_rfl) Tryz.underlying35 _ ps (hs _ (List.Mem.tail _ (List.Mem.tail _ (List.Mem.tail _ (List.Mem.head _))))) hv
theorem etG : Tryz.prog.globalNamed "errors.errorType" = some 0 := by kernel_rfl
theorem rtT : (Tryz.prog.cutTypes.find? (·.1 == "internal/reflectlite.rtype")).map (·.2) = some 182 := by kernel_rfl
theorem oneRow : ((List.range Tryz.prog.types.size).filter fun t => Tryz.prog.rowNamed t [101, 114, 114, 111, 114]) = [35] := by kernel_rfl
theorem ety_of {W : World} (h : handlesMet Tryz.prog [("errors.errorType", Rows.laid_errors_errorType)] W) : EtyOk W := by
 obtain ⟨name, u, ty, e1, e2, e3, e4, e5⟩ := h _ (List.mem_singleton.2 rfl)
 have en : name = [101, 114, 114, 111, 114] := (Option.some.inj e1).symm
 subst en
 obtain rfl := Option.some.inj (rtT.symm.trans e2)
 have hm : ty ∈ (List.range Tryz.prog.types.size).filter fun t => Tryz.prog.rowNamed t [101, 114, 114, 111, 114] := List.mem_filter.2 ⟨List.mem_range.2 e3, e4⟩
 rw [oneRow] at hm
 obtain rfl := List.mem_singleton.1 hm
 have hh : typeHandle Tryz.prog 35 = .pointer (some ⟨Tryz.prog.globals.size, 35, none⟩) := rfl
 rw [hh] at e5
 have hs : Tryz.prog.globals.size = 12 := by kernel_rfl
 rw [hs] at e5
 unfold EtyOk
 simpa using World.var?_cell etG e5 0
theorem run_ix (ty n : Nat) (cs : List Value) (k : Nat) (s : ByteArray) (W : World) (hu : Tryz.prog.underlying ty = some (.array n 9)) (hk : k < n) (h : cs[k]? = some (.string s)) :
 (Instr.index ty (.agg cs.toArray) (.int .i64 (k : Int))).run Tryz.prog W = .ok (.string s) W := by
 have hs : (sizeOf 9).run Tryz.prog W = .ok 1 W := by kernel_rfl
 have hi : (0 : Int) ≤ (k : Int) ∧ (k : Int) < (n : Int) := by omega
 simp [Instr.index, run_underlying hu, asIntOf, hi, go_sem, hs, h]
 omega
theorem str_inj {s t : ByteArray} (h : s.data.toList = t.data.toList) : s = t := by rw [← str_of s, ← str_of t, h]
theorem str_eq_beq (s t : ByteArray) : (s.data.toList == t.data.toList) = decide (s = t) := by
 rw [Bool.eq_iff_iff]
 simp only [beq_iff_eq, decide_eq_true_eq]
 exact ⟨str_inj, fun h => by rw [h]⟩
theorem mem_getD {l : List (List UInt8)} {x : List UInt8} (n : Nat) (hn : l.length = n) : l.contains x = true ↔ ∃ j, j < n ∧ l.getD j [] = x := by
 subst hn
 rw [List.contains_iff_mem]
 constructor
 ·intro h
  obtain ⟨j, hj, e⟩ := List.getElem_of_mem h
  exact ⟨j, hj, by rw [List.getD_eq_getElem?_getD, List.getElem?_eq_getElem hj]; exact e⟩
 ·rintro ⟨j, hj, e⟩
  rw [← e, List.getD_eq_getElem?_getD, List.getElem?_eq_getElem hj]
  exact List.getElem_mem hj
theorem tab_list (V : Nat → ByteArray) (n : Nat) : ∃ cs : List Value, cs.length = n ∧ (∀ k < n, cs[k]? = some (.string (V k))) ∧ ∀ j v, cs[j]? = some v → j < n ∧ v = .string (V j) :=
 ⟨(List.range n).map fun j => .string (V j), by simp, fun k hk => by simp [hk], fun j v h => by
  rw [List.getElem?_map, Option.map_eq_some_iff] at h
  obtain ⟨i, hi, rfl⟩ := h
  obtain ⟨hj, rfl⟩ := List.getElem?_eq_some_iff.1 hi
  simp at hj ⊢
  exact hj⟩
theorem isWd_iff (l : List UInt8) : isWd l = true ↔ ∃ j, j < 16 ∧ wordsL.getD j [] = l := mem_getD 16 rfl
theorem isWord_any (s : ByteArray) (w : World) (hT : WordsOk w) : Calls Tryz.prog 131 #[.string s] w fun e w' => e = .returned (.bool (isWd s.data.toList)) ∧ w = w' := by
 obtain ⟨V, hVd, hV⟩ : ∃ V : Nat → ByteArray, (∀ j, V j = str (wordsL.getD j [])) ∧ ∀ j < 16, w.cell? ⟨4, j, none⟩ = some (.string (V j)) := ⟨fun j => str (wordsL.getD j []), fun _ => rfl, hT⟩
 have HD := Lib.hid hVd
 clear hVd hT
 obtain ⟨cs, hl, hg, hc⟩ := tab_list V 16
 have hR0 : w.rangeAt 4 0 cs := fun j v h => by obtain ⟨h1, rfl⟩ := hc j v h; rw [Nat.zero_add]; exact hV j h1
 have hI0 : (Tryz.prog.info? 216).map (·.size) = some cs.length := by rw [hl]; kernel_rfl
 have HR0 := Lib.hid hR0
 have HI0 := Lib.hid hI0
 clear hR0 hI0
 have HG := Lib.hid hg
 clear hV hg hc hl
 go_enter Tryz.func131, Tryz.ntmps131
 go_wp2_with (with_reducible refine wpList_load_mid rfl _ _ rfl 4 0 rfl cs _ HR0.out Tryz.underlying216 rfl HI0.out ?_)
 go_loop [6] (fun i => ∃ k : Nat, k ≤ 16 ∧ i = .int .i64 k ∧ ∀ j, j < k → V j ≠ s) (fun i => 16 - (intOf i).toNat)
 case atStart => exact ⟨0, by omega, rfl, fun j hj => by omega⟩
 case round =>
  obtain ⟨k, hk, rfl, hno⟩ := hrel
  have HN := Lib.hid hno
  clear hno
  by_cases hlt : k < 16
  ·have hx := fun W => run_ix 216 16 cs k (V k) W Tryz.underlying216 hlt (HG.out k hlt)
   by_cases he : V k = s
   ·subst he
    go_wp2
    go_ret
    refine ⟨congrArg (fun b => Ending.returned (Value.bool b)) (Eq.symm ?_), rfl⟩
    rw [isWd_iff]
    exact ⟨k, hlt, by rw [HD.out k, str_list]⟩
   ·have hne : ((V k).toList == s.toList) = false := by
     rw [ByteArray.toList_eq, ByteArray.toList_eq, str_eq_beq]; simpa using he
    go_wp2
    go_round
    case rel => exact ⟨k + 1, by omega, by go_num, fun j hj => by
     by_cases e : j = k
     ·rw [e]; exact he
     ·exact HN.out j (by omega)⟩
    case measure => simp [intOf]; omega
  ·obtain rfl : k = 16 := by omega
   go_wp2
   go_ret
   refine ⟨congrArg (fun b => Ending.returned (Value.bool b)) (Eq.symm ?_), rfl⟩
   rw [Bool.eq_false_iff]
   intro h
   rw [isWd_iff] at h
   obtain ⟨j, hj, e⟩ := h
   exact HN.out j hj (by rw [HD.out j, e, str_of])
theorem lsF_step (k : Nat) (hk : k < 25) (b l : List UInt8) : lsF (signsL.drop k) b l = lsF (signsL.drop (k + 1)) (if b.length < (signsL.getD k []).length ∧ (signsL.getD k []).isPrefixOf l = true then signsL.getD k [] else b) l := by
 have hk' : k < signsL.length := hk
 have e : signsL.drop k = signsL.getD k [] :: signsL.drop (k + 1) := by
  rw [List.drop_eq_getElem_cons hk', List.getD_eq_getElem?_getD, List.getElem?_eq_getElem hk']; rfl
 rw [e, lsF]
theorem ls_start (l : List UInt8) : lsF (signsL.drop 0) (⟨#[]⟩ : ByteArray).data.toList l = ls l := by rw [List.drop_zero]; unfold ls; rfl
theorem ls_stop (b l : List UInt8) : lsF (signsL.drop 25) b l = b := by rw [show signsL.drop 25 = [] by decide, lsF]
theorem longestSign_any (s : ByteArray) (w : World) (hT : SignsOk w) : Calls Tryz.prog 95 #[.string s] w fun e w' => e = .returned (.string (str (ls s.data.toList))) ∧ w = w' := by
 obtain ⟨V, hVd, hV⟩ : ∃ V : Nat → ByteArray, (∀ j, V j = str (signsL.getD j [])) ∧ ∀ j < 25, w.cell? ⟨2, j, none⟩ = some (.string (V j)) := ⟨fun j => str (signsL.getD j []), fun _ => rfl, hT⟩
 have HD := Lib.hid hVd
 clear hVd hT
 obtain ⟨cs, hl, hg, hc⟩ := tab_list V 25
 have hR0 : w.rangeAt 2 0 cs := fun j v h => by obtain ⟨h1, rfl⟩ := hc j v h; rw [Nat.zero_add]; exact hV j h1
 have hI0 : (Tryz.prog.info? 180).map (·.size) = some cs.length := by rw [hl]; kernel_rfl
 have HR0 := Lib.hid hR0
 have HI0 := Lib.hid hI0
 clear hR0 hI0
 have HG := Lib.hid hg
 clear hV hg hc hl
 obtain ⟨R, hR⟩ : ∃ R, R = ls s.data.toList := ⟨_, rfl⟩
 rw [← hR]
 have HR := Lib.hid hR
 clear hR
 go_enter Tryz.func95, Tryz.ntmps95
 go_wp2_with (with_reducible refine wpList_load_mid rfl _ _ rfl 2 0 rfl cs _ HR0.out Tryz.underlying180 rfl HI0.out ?_)
 go_loop [3, 7] (fun g i => ∃ (k : Nat) (B : ByteArray), k ≤ 25 ∧ i = .int .i64 k ∧ g = .string B ∧ Hid (lsF (signsL.drop k) B.data.toList s.data.toList = R)) (fun _ i => 25 - (intOf i).toNat)
 case atStart => exact ⟨0, ⟨#[]⟩, by omega, rfl, rfl, Lib.hid (by rw [HR.out]; exact ls_start _)⟩
 case round =>
  obtain ⟨k, B, hk, rfl, rfl, hB⟩ := hrel
  by_cases hlt : k < 25
  ·have hx := fun W => run_ix 180 25 cs k (V k) W Tryz.underlying180 hlt (HG.out k hlt)
   have HS := Lib.hid (lsF_step k hlt B.data.toList s.data.toList)
   have e1 : (V k).data.toList = signsL.getD k [] := by rw [HD.out k, str_list]
   have HE := Lib.hid e1
   have hz : (signsL.getD k []).length = (V k).size := by rw [← e1]; rfl
   have HZ := Lib.hid hz
   clear e1 hz
   have hp := Lstrings_HasPrefix s (V k)
   by_cases hl : B.size < (V k).size
   ·cases hq : (signsL.getD k []).isPrefixOf s.data.toList
    ·rw [show Lib.hasPrefix s.data.toList (V k).data.toList = false by rw [HE.out]; exact hq] at hp
     have HQ := Lib.hid hq
     clear hq
     go_wp2_with (go_at_call 42; ((with_reducible refine (hp _).mono ?_); rintro e w1 ⟨rfl, rfl⟩))
     go_round
     case rel => exact ⟨k + 1, B, by omega, by go_num, rfl, Lib.hid (by rw [← hB.out, HS.out, if_neg (fun h => by rw [HQ.out] at h; simp at h)])⟩
     case measure => simp [intOf]; omega
    ·rw [show Lib.hasPrefix s.data.toList (V k).data.toList = true by rw [HE.out]; exact hq] at hp
     have HQ := Lib.hid hq
     clear hq
     go_wp2_with (go_at_call 42; ((with_reducible refine (hp _).mono ?_); rintro e w1 ⟨rfl, rfl⟩))
     go_round
     case rel => exact ⟨k + 1, V k, by omega, by go_num, rfl, Lib.hid (by rw [← hB.out, HS.out, if_pos ⟨by rw [HZ.out]; exact hl, HQ.out⟩, HE.out])⟩
     case measure => simp [intOf]; omega
   ·go_wp2_with (go_at_call 42; ((with_reducible refine (hp _).mono ?_); rintro e w1 ⟨rfl, rfl⟩))
    go_round
    case rel => exact ⟨k + 1, B, by omega, by go_num, rfl, Lib.hid (by rw [← hB.out, HS.out, if_neg (fun h => hl (by rw [← HZ.out]; exact h.1))])⟩
    case measure => simp [intOf]; omega
  ·obtain rfl : k = 25 := by omega
   have e : B = str R := by have h := hB.out; rw [ls_stop] at h; rw [← h, str_of]
   subst e
   go_wp2
   go_ret
   exact ⟨rfl, rfl⟩
end
section
open Go.ChangeShapes Go.WideShapes Go.ChangeAt Go.RowKit Go.Extern.Stop Go.Stop Go.Extern
theorem as_nil (t : Value) (w : World) :
 Calls Tryz.prog 61 #[.nilIface, t] w fun e w' => e = .returned (.bool false) ∧ w = w' := by
 go_enter Tryz.func61, Tryz.ntmps61
 go_wp2
 go_ret
 exact ⟨rfl, rfl⟩
theorem mKind (h : Value) (w : World) : (Go.method 392 182 (.agg #[h]) "Kind").run Tryz.prog w = .ok (218, h) w := by kernel_rfl
theorem mElem (h : Value) (w : World) : (Go.method 392 182 (.agg #[h]) "Elem").run Tryz.prog w = .ok (231, .agg #[h]) w := by kernel_rfl
theorem mImplements (h : Value) (w : World) : (Go.method 392 182 (.agg #[h]) "Implements").run Tryz.prog w = .ok (232, .agg #[h]) w := by kernel_rfl
theorem mAssignableTo (h : Value) (w : World) : (Go.method 392 182 (.agg #[h]) "AssignableTo").run Tryz.prog w = .ok (229, .agg #[h]) w := by kernel_rfl
theorem rlm (z : Sem Value) (f : TypeId → Addr → Nat → Nat → Sem Value) (v : Value) :
 ReflectliteValue.method z f #[v] = (do match ← ReflectliteValue.parts v with | none => z | some (t, a, fl) => f t a fl (fl % 32)) := rfl
theorem rls (v x : Value) : ReflectliteValue.set #[v, x] = (do
 let (some (dst, a, fl), some (src, b, _)) := (← ReflectliteValue.parts v, ← ReflectliteValue.parts x)
  | unsupported (.noEntry "extern/(internal/reflectlite.Value).Set.zeroValue")
 if fl / ReflectliteValue.flagAddr % 2 == 0 then unsupported (.noEntry "extern/(internal/reflectlite.Value).Set.unaddressable")
 let val ← loadVar src b
 if ← Rtype.directlyAssignable dst src then storeVar dst a val
 else if ← Rtype.implements dst src then
  if (← Rtype.kind src) == 20 then
   match val with
   | .nilIface => unsupported (.noEntry "extern/reflectlite: a nil value of one interface type handed on as a value of another")
   | _ => storeVar dst a val
  else storeVar dst a (.iface src val)
 else panicString ("reflectlite.Set: value of type " ++ (← Rtype.spelt src) ++ " is not assignable to type " ++ (← Rtype.spelt dst))
 pure (.tuple #[])) := rfl
theorem valueOfP_En (t : Addr) (w : World) : (ReflectliteValue.unpack (.iface 113 (.pointer (some t)))).run Tryz.prog w
 = .ok (.agg #[.pointer (some ⟨12, 113, none⟩), .pointer (some ⟨w.heap.size, 0, none⟩), .int .u64 150]) (w.alloc (.cells #[.pointer (some t)] 113)) := by kernel_rfl
theorem typeP_En (a : Addr) (w : World) : (ReflectliteValue.methodAny (ReflectliteValue.valueError "reflectlite.Value.Type" 0) (fun t _ _ _ => ReflectliteType.toType t) #[.agg #[.pointer (some ⟨12, 113, none⟩), .pointer (some a), .int .u64 150]]).run Tryz.prog w
 = .ok (.iface 182 (.agg #[.pointer (some ⟨12, 113, none⟩)])) w := by kernel_rfl
theorem kindP_En (w : World) : ((ReflectliteType.abiMethod fun t => (fun a : Nat => Value.int IntKind.u8 (a : Int)) <$> Rtype.kind t) #[.pointer (some ⟨12, 113, none⟩)]).run Tryz.prog w = .ok (.int .u8 22) w := by kernel_rfl
theorem kindE_En (w : World) : ((ReflectliteType.abiMethod fun t => (fun a : Nat => Value.int IntKind.u8 (a : Int)) <$> Rtype.kind t) #[.pointer (some ⟨12, 28, none⟩)]).run Tryz.prog w = .ok (.int .u8 2) w := by kernel_rfl
theorem partsP_En (a : Addr) (w : World) : (ReflectliteValue.parts (.agg #[.pointer (some ⟨12, 113, none⟩), .pointer (some a), .int .u64 150])).run Tryz.prog w = .ok (some (113, a, 150)) w := by kernel_rfl
theorem isNil_En (a p : Addr) (W : World) (ha : W.cell? a = some (.pointer (some p))) :
 (ReflectliteValue.method (ReflectliteValue.valueError "reflectlite.Value.IsNil" 0) ReflectliteValue.isNil #[.agg #[.pointer (some ⟨12, 113, none⟩), .pointer (some a), .int .u64 150]]).run Tryz.prog W = .ok (.bool false) W := by
 rw [rlm]
 simp only [Sem.run_bind, partsP_En, Result.andThen]
 simp [ReflectliteValue.isNil, loadVar, isAgg, underlying, Tryz.underlying113, ha, Result.andThen]
theorem elemT_En (w : World) : (ReflectliteType.method ReflectliteType.elem #[.agg #[.pointer (some ⟨12, 113, none⟩)]]).run Tryz.prog w = .ok (.iface 182 (.agg #[.pointer (some ⟨12, 28, none⟩)])) w := by kernel_rfl
theorem impl_En (w : World) : (ReflectliteType.relation "Implements" ReflectliteType.implements_ #[.agg #[.pointer (some ⟨12, 28, none⟩)], .iface 182 (.agg #[.pointer (some ⟨12, 35, none⟩)])]).run Tryz.prog w = .ok (.bool true) w := by kernel_rfl
theorem typeOf_En (v : Value) (w : World) : (ReflectliteType.typeOf #[.iface 28 v]).run Tryz.prog w = .ok (.iface 182 (.agg #[.pointer (some ⟨12, 28, none⟩)])) w := by kernel_rfl
theorem assign_En (w : World) : (ReflectliteType.relation "AssignableTo" ReflectliteType.assignableTo #[.agg #[.pointer (some ⟨12, 28, none⟩)], .iface 182 (.agg #[.pointer (some ⟨12, 28, none⟩)])]).run Tryz.prog w = .ok (.bool true) w := by kernel_rfl
theorem valueOfE_En (e0 : Int) (w : World) : (ReflectliteValue.unpack (.iface 28 (.int .i64 e0))).run Tryz.prog w
 = .ok (.agg #[.pointer (some ⟨12, 28, none⟩), .pointer (some ⟨w.heap.size, 0, none⟩), .int .u64 130]) (w.alloc (.cells #[.int .i64 e0] 28)) := by kernel_rfl
theorem elemOf_En (w : World) : (Rtype.elem? 113).run Tryz.prog w = .ok (some 28) w := by kernel_rfl
theorem mk_En (p : Addr) (w : World) : (ReflectliteValue.mk 28 p ReflectliteValue.flagAddr).run Tryz.prog w = .ok (.agg #[.pointer (some ⟨12, 28, none⟩), .pointer (some p), .int .u64 386]) w := by kernel_rfl
theorem elemV_En (a p : Addr) (W : World) (ha : W.cell? a = some (.pointer (some p))) :
 (ReflectliteValue.method (ReflectliteValue.valueError "reflectlite.Value.Elem" 0) ReflectliteValue.elem #[.agg #[.pointer (some ⟨12, 113, none⟩), .pointer (some a), .int .u64 150]]).run Tryz.prog W
   = .ok (.agg #[.pointer (some ⟨12, 28, none⟩), .pointer (some p), .int .u64 386]) W := by
 rw [rlm]
 simp only [Sem.run_bind, partsP_En, Result.andThen]
 simp [ReflectliteValue.elem, loadVar, isAgg, underlying, Tryz.underlying113, ha, Result.andThen, elemOf_En, mk_En]
theorem partsA_En (a : Addr) (w : World) : (ReflectliteValue.parts (.agg #[.pointer (some ⟨12, 28, none⟩), .pointer (some a), .int .u64 386])).run Tryz.prog w = .ok (some (28, a, 386)) w := by kernel_rfl
theorem partsV_En (a : Addr) (w : World) : (ReflectliteValue.parts (.agg #[.pointer (some ⟨12, 28, none⟩), .pointer (some a), .int .u64 130])).run Tryz.prog w = .ok (some (28, a, 130)) w := by kernel_rfl
theorem direct_En (w : World) : (Rtype.directlyAssignable 28 28).run Tryz.prog w = .ok true w := by kernel_rfl
theorem set_En (ta b : Addr) (e0 : Int) (old : Value) (W : World) (hb : W.cell? b = some (.int .i64 e0)) (ht : W.cell? ta = some old) (hf : W.frozen? ta = false) :
 (ReflectliteValue.set #[.agg #[.pointer (some ⟨12, 28, none⟩), .pointer (some ta), .int .u64 386], .agg #[.pointer (some ⟨12, 28, none⟩), .pointer (some b), .int .u64 130]]).run Tryz.prog W
   = .ok (.tuple #[]) (W.setCell ta (.int .i64 e0)) := by
 rw [rls]
 simp only [Sem.run_bind, partsA_En, partsV_En, Result.andThen]
 simp [ReflectliteValue.flagAddr, loadVar, isAgg, underlying, Tryz.underlying28, hb, Result.andThen, direct_En, storeVar, Value.cells, storeCells, Addr.add]
 rw [run_store Tryz.prog W ta _ _ (by rfl)]
 simp [ht, hf]
theorem as_En (e0 : Int) (tb : Nat) (old : Value) (w : World) (hg : EtyOk w) (ht0 : w.cell? ⟨tb, 0, none⟩ = some old) (hf0 : w.frozen? ⟨tb, 0, none⟩ = false) :
 Calls Tryz.prog 61 #[.iface 28 (.int .i64 e0), .iface 113 (.pointer (some ⟨tb, 0, none⟩))] w fun ev w' => ev = .returned (.bool true) ∧ w' = ((((w.alloc (.cells #[.pointer (some ⟨tb, 0, none⟩)] 113)).alloc (.cells #[.pointer (some ⟨12, 113, none⟩), .pointer (some ⟨w.heap.size, 0, none⟩), .int .u64 150] 146)).alloc (.cells #[.pointer (some ⟨12, 113, none⟩), .pointer (some ⟨w.heap.size, 0, none⟩), .int .u64 150] 146)).alloc (.cells #[.int .i64 e0] 28)).setCell ⟨tb, 0, none⟩ (.int .i64 e0) := by
 unfold EtyOk at hg
 have h6 := @run_callFunc_extern Tryz.prog 97 _ (fun args => ReflectliteValue.unpack (args.getD 0 (.tuple #[]))) Tryz.func97 (by kernel_rfl) (by kernel_rfl) (by kernel_rfl) (by kernel_rfl)
 have h7 := @run_callFunc_extern Tryz.prog 98 _ (ReflectliteValue.methodAny (ReflectliteValue.valueError "reflectlite.Value.Type" 0) (fun t _ _ _ => ReflectliteType.toType t)) Tryz.func98 (by kernel_rfl) (by kernel_rfl) (by kernel_rfl) (by kernel_rfl)
 have h8 := @run_callFunc_extern Tryz.prog 99 _ (ReflectliteValue.method (ReflectliteValue.valueError "reflectlite.Value.IsNil" 0) ReflectliteValue.isNil) Tryz.func99 (by kernel_rfl) (by kernel_rfl) (by kernel_rfl) (by kernel_rfl)
 have h27 := @run_callFunc_extern Tryz.prog 218 _ (ReflectliteType.abiMethod fun t => do pure (.int .u8 (← Rtype.kind t))) Tryz.func218 (by kernel_rfl) (by kernel_rfl) (by kernel_rfl) (by kernel_rfl)
 have h37 := @run_callFunc_extern Tryz.prog 231 _ (ReflectliteType.method ReflectliteType.elem) Tryz.func231 (by kernel_rfl) (by kernel_rfl) (by kernel_rfl) (by kernel_rfl)
 have h38 := @run_callFunc_extern Tryz.prog 232 _ (ReflectliteType.relation "Implements" ReflectliteType.implements_) Tryz.func232 (by kernel_rfl) (by kernel_rfl) (by kernel_rfl) (by kernel_rfl)
 have h10 := @run_callFunc_extern Tryz.prog 134 _ ReflectliteType.typeOf Tryz.func134 (by kernel_rfl) (by kernel_rfl) (by kernel_rfl) (by kernel_rfl)
 have h35 := @run_callFunc_extern Tryz.prog 229 _ (ReflectliteType.relation "AssignableTo" ReflectliteType.assignableTo) Tryz.func229 (by kernel_rfl) (by kernel_rfl) (by kernel_rfl) (by kernel_rfl)
 have h11 := @run_callFunc_extern Tryz.prog 135 _ (ReflectliteValue.method (ReflectliteValue.valueError "reflectlite.Value.Elem" 0) ReflectliteValue.elem) Tryz.func135 (by kernel_rfl) (by kernel_rfl) (by kernel_rfl) (by kernel_rfl)
 have h12 := @run_callFunc_extern Tryz.prog 136 _ ReflectliteValue.set Tryz.func136 (by kernel_rfl) (by kernel_rfl) (by kernel_rfl) (by kernel_rfl)
 have tO := typeOf_En
 have mA := mAssignableTo
 have aE := assign_En
 have vE := valueOfE_En
 have f6 := valueOfP_En
 have f7 := typeP_En
 have mK := mKind
 have mE := mElem
 have mI := mImplements
 have kP := kindP_En
 have kE := kindE_En
 have eP := elemT_En
 have iE := impl_En
 have n8 := isNil_En ⟨w.heap.size, 0, none⟩ ⟨tb, 0, none⟩ ((w.alloc (.cells #[.pointer (some ⟨tb, 0, none⟩)] 113)).alloc (.cells #[.pointer (some ⟨12, 113, none⟩), .pointer (some ⟨w.heap.size, 0, none⟩), .int .u64 150] 146)) (by simp)
 have hlt : 0 < w.heap.size := World.block_lt_of_cell? w _ hg
 have hg2 : ((w.alloc (.cells #[.pointer (some ⟨tb, 0, none⟩)] 113)).alloc (.cells #[.pointer (some ⟨12, 113, none⟩), .pointer (some ⟨w.heap.size, 0, none⟩), .int .u64 150] 146)).cell? ⟨0, 0, none⟩ = some (.iface 182 (.agg #[.pointer (some ⟨12, 35, none⟩)])) := by
  rw [World.cell?_alloc_lt _ _ ⟨0, 0, none⟩ (by simp), World.cell?_alloc_lt _ _ ⟨0, 0, none⟩ hlt]; exact hg
 have htl : tb < w.heap.size := World.block_lt_of_cell? w _ ht0
 have el := elemV_En ⟨w.heap.size, 0, none⟩ ⟨tb, 0, none⟩ (((w.alloc (.cells #[.pointer (some ⟨tb, 0, none⟩)] 113)).alloc (.cells #[.pointer (some ⟨12, 113, none⟩), .pointer (some ⟨w.heap.size, 0, none⟩), .int .u64 150] 146)).alloc (.cells #[.pointer (some ⟨12, 113, none⟩), .pointer (some ⟨w.heap.size, 0, none⟩), .int .u64 150] 146)) (by rw [World.cell?_alloc_lt _ _ ⟨w.heap.size, 0, none⟩ (by simp; omega)]; simp)
 have st := set_En ⟨tb, 0, none⟩ ⟨w.heap.size + 1 + 1 + 1, 0, none⟩ e0 old ((((w.alloc (.cells #[.pointer (some ⟨tb, 0, none⟩)] 113)).alloc (.cells #[.pointer (some ⟨12, 113, none⟩), .pointer (some ⟨w.heap.size, 0, none⟩), .int .u64 150] 146)).alloc (.cells #[.pointer (some ⟨12, 113, none⟩), .pointer (some ⟨w.heap.size, 0, none⟩), .int .u64 150] 146)).alloc (.cells #[.int .i64 e0] 28)) (by rw [World.cell?_alloc_at _ _ _ _ (by simp)]; rfl) (by rw [World.cell?_alloc_lt _ _ ⟨tb, 0, none⟩ (by simp; omega), World.cell?_alloc_lt _ _ ⟨tb, 0, none⟩ (by simp; omega), World.cell?_alloc_lt _ _ ⟨tb, 0, none⟩ (by simp; omega), World.cell?_alloc_lt _ _ ⟨tb, 0, none⟩ htl]; exact ht0) (by rw [World.frozen?_alloc_old _ _ ⟨tb, 0, none⟩ (by simp; omega), World.frozen?_alloc_old _ _ ⟨tb, 0, none⟩ (by simp; omega), World.frozen?_alloc_old _ _ ⟨tb, 0, none⟩ (by simp; omega), World.frozen?_alloc_old _ _ ⟨tb, 0, none⟩ (Nat.ne_of_lt htl)]; exact hf0)
 go_enter Tryz.func61, Tryz.ntmps61
 go_wp2
 refine wp_loop_rounds 1 ?_
 rw [rounds_succ]
 go_wp2
 go_ret
 exact ⟨rfl, rfl⟩
end
section
open Go.ChangeShapes Go.WideShapes Go.ChangeAt Go.RowKit
theorem ret_b {a b : Bool} (h : a = b) : Ending.returned (.bool a) = .returned (.bool b) := by rw [h]
theorem blank_any (c : UInt8) (w : World) : Calls Tryz.prog 89 #[.int .u8 (c.toNat : Int)] w fun e w' => e = .returned (.bool (isB c)) ∧ w = w' := by
 go_enter Tryz.func89, Tryz.ntmps89
 go_wp2
 all_goals
  go_ret
  refine ⟨ret_b ?_, rfl⟩
  unfold isB
  rw [Bool.eq_iff_iff]
  simp
  omega
theorem letter_any (c : UInt8) (w : World) : Calls Tryz.prog 90 #[.int .u8 (c.toNat : Int)] w fun e w' => e = .returned (.bool (isL c)) ∧ w = w' := by
 go_enter Tryz.func90, Tryz.ntmps90
 go_wp2
 all_goals
  go_ret
  refine ⟨ret_b ?_, rfl⟩
  unfold isL
  rw [Bool.eq_iff_iff]
  simp
  omega
theorem digit_any (c : UInt8) (w : World) : Calls Tryz.prog 93 #[.int .u8 (c.toNat : Int)] w fun e w' => e = .returned (.bool (isD c)) ∧ w = w' := by
 go_enter Tryz.func93, Tryz.ntmps93
 go_wp2
 all_goals
  go_ret
  refine ⟨ret_b ?_, rfl⟩
  unfold isD
  rw [Bool.eq_iff_iff]
  simp
  omega
theorem ld_any (c : UInt8) (w : World) : Calls Tryz.prog 91 #[.int .u8 (c.toNat : Int)] w fun e w' => e = .returned (.bool (isLD c)) ∧ w = w' := by
 have h1 := letter_any c
 have h2 := digit_any c
 have e : isLD c = (isL c || isD c) := rfl
 generalize isLD c = x at *
 generalize isL c = y at *
 generalize isD c = z at *
 subst e
 go_enter Tryz.func91, Tryz.ntmps91
 cases y
 all_goals
  go_wp2_with (first | (go_at_call 90; ((with_reducible refine (h1 _).mono ?_); rintro e w1 ⟨rfl, rfl⟩)) | (go_at_call 93; ((with_reducible refine (h2 _).mono ?_); rintro e w1 ⟨rfl, rfl⟩)))
  go_ret
  exact ⟨rfl, rfl⟩
theorem cut_run (s : ByteArray) (a k : Nat) (h : a + k ≤ s.size) (W : World) :
 (Instr.slice 9 (.string s) (some (.int .i64 (a : Int))) (some (.int .i64 ((a : Int) + (k : Int)))) none).run Tryz.prog W = .ok (.string (s.extract a (a + k))) W := by
 rw [run_slice_string (P := Tryz.prog) W 9 s .i64 .i64 (a : Int) ((a : Int) + (k : Int)) Tryz.underlying9 (by omega) (by omega) (by omega)]
 have e1 : ((a : Int)).toNat = a := by omega
 have e2 : ((a : Int) + (k : Int)).toNat = a + k := by omega
 rw [e1, e2]
def spanL (p : UInt8 → Bool) (s : ByteArray) (a : Nat) : Nat := ((s.data.toList.drop a).takeWhile p).length
theorem byte_at (s : ByteArray) (k : Nat) (h : k < s.size) : s.data.toList[k]? = some (s[k]'h) := by
 rw [Array.getElem?_toList]
 exact Array.getElem?_eq_getElem h
theorem drop_cons (s : ByteArray) (k : Nat) (h : k < s.size) : s.data.toList.drop k = s[k]'h :: s.data.toList.drop (k + 1) := by
 have h' : k < s.data.toList.length := by simpa using h
 rw [List.drop_eq_getElem_cons h']
 congr 1
theorem span_on (p : UInt8 → Bool) (s : ByteArray) (a k : Nat) (h : a + k < s.size) (hk : ∀ j, j < k → ∀ h : a + j < s.size, p (s[a + j]'h) = true) (hp : p (s[a + k]'h) = false) : spanL p s a = k := by
 unfold spanL
 induction k generalizing a with
 | zero => rw [drop_cons s a (by omega), List.takeWhile_cons]; simp only [Nat.add_zero] at hp; rw [hp]; rfl
 | succ k ih =>
  have h0 := hk 0 (by omega) (by omega)
  simp only [Nat.add_zero] at h0
  rw [drop_cons s a (by omega), List.takeWhile_cons, h0]
  simp only [if_true, List.length_cons]
  rw [ih (a + 1) (by omega) (fun j hj hh => by have := hk (j + 1) (by omega) (by omega); simpa [show a + (j + 1) = a + 1 + j by omega] using this) (by simpa [show a + (k + 1) = a + 1 + k by omega] using hp)]
theorem span_all (p : UInt8 → Bool) (s : ByteArray) (a : Nat) (ha : a ≤ s.size) (hk : ∀ j, ∀ h : a + j < s.size, p (s[a + j]'h) = true) : spanL p s a = s.size - a := by
 unfold spanL
 have : (s.data.toList.drop a).takeWhile p = s.data.toList.drop a := by
  have hall : ∀ x ∈ s.data.toList.drop a, p x = true := by
   intro x hx
   obtain ⟨i, hi, rfl⟩ := List.getElem_of_mem hx
   rw [List.getElem_drop]
   simp at hi
   have := hk i (by have : s.data.size = s.size := rfl; omega)
   exact this
  have := takeWhile_ext p _ [] hall (by simp)
  rwa [List.append_nil] at this
 rw [this]
 simp
theorem ext_list (s : ByteArray) (a b : Nat) (h : b ≤ s.size) : (s.extract a b).data.toList = (s.data.toList.drop a).take (b - a) := by
 rw [ByteArray.data_extract, Array.toList_extract, List.extract_eq_take_drop]
theorem take_span (p : UInt8 → Bool) (l : List UInt8) : l.take (l.takeWhile p).length = l.takeWhile p := by
 obtain ⟨r, h, _⟩ := takeWhile_pre p l
 generalize l.takeWhile p = m at h ⊢
 rw [h, List.take_left]
theorem tog_blank (s : ByteArray) (a ga gs : Nat) (w : World) (hs : s.size ≤ 16384) (ha : a ≤ s.size) (ca : w.cell? ⟨ga, 0, none⟩ = some (.int .i64 (a : Int))) (cs : w.cell? ⟨gs, 0, none⟩ = some (.string s)) :
 Calls Tryz.prog 88 #[.func (.func 89) #[] #[], .pointer (some ⟨ga, 0, none⟩), .pointer (some ⟨gs, 0, none⟩)] w fun e w' => e = .returned (.string (s.extract a (a + spanL isB s a))) ∧ w = w' := by
 have hga := World.block_lt_of_cell? w _ ca
 have hgs := World.block_lt_of_cell? w _ cs
 simp only at hga hgs
 go_enter Tryz.func88, Tryz.ntmps88
 go_wp2
 go_loop [5] (fun e => ∃ k : Nat, a + k ≤ s.size ∧ e = .int .i64 ((a + k : Nat) : Int) ∧ ∀ j, j < k → ∀ h : a + j < s.size, isB (s[a + j]'h) = true) (fun e => s.size - (intOf e).toNat)
 case atStart => exact ⟨0, by omega, rfl, fun j hj => by omega⟩
 case round =>
  obtain ⟨k, hk, rfl, hall⟩ := hrel
  have HA := Lib.hid hall
  clear hall
  by_cases hlt : a + k < s.size
  ·have hB := blank_any (s[a + k]'hlt)
   have hcut := cut_run s a k hk
   cases hp : isB (s[a + k]'hlt)
   ·rw [hp] at hB
    have HP := Lib.hid hp
    clear hp
    go_wp2_with (go_at_call 89; ((with_reducible refine (hB _).mono ?_); rintro e w1 ⟨rfl, rfl⟩))
    go_ret
    exact ⟨by rw [span_on isB s a k hlt HA.out HP.out]; rfl, rfl⟩
   ·rw [hp] at hB
    have HP := Lib.hid hp
    clear hp
    go_wp2_with (go_at_call 89; ((with_reducible refine (hB _).mono ?_); rintro e w1 ⟨rfl, rfl⟩))
    go_round
    case rel => exact ⟨k + 1, by omega, by go_num, fun j hj h => by
     by_cases e : j = k
     ·subst e; exact HP.out
     ·exact HA.out j (by omega) h⟩
    case measure => simp [intOf]; omega
  ·obtain ⟨k, rfl⟩ : ∃ m, m = k := ⟨_, rfl⟩
   have hk' : a + k = s.size := by omega
   have HE := Lib.hid (span_all isB s a ha (fun j h => HA.out j (by omega) h))
   have HK := Lib.hid hk'
   have hcut := cut_run s a k hk
   clear hk'
   go_wp2
   go_ret
   exact ⟨by rw [HE.out, show a + (s.size - a) = a + k by have := HK.out; omega]; rfl, rfl⟩
theorem tog_ld (s : ByteArray) (a ga gs : Nat) (w : World) (hs : s.size ≤ 16384) (ha : a ≤ s.size) (ca : w.cell? ⟨ga, 0, none⟩ = some (.int .i64 (a : Int))) (cs : w.cell? ⟨gs, 0, none⟩ = some (.string s)) :
 Calls Tryz.prog 88 #[.func (.func 91) #[] #[], .pointer (some ⟨ga, 0, none⟩), .pointer (some ⟨gs, 0, none⟩)] w fun e w' => e = .returned (.string (s.extract a (a + spanL isLD s a))) ∧ w = w' := by
 have hga := World.block_lt_of_cell? w _ ca
 have hgs := World.block_lt_of_cell? w _ cs
 simp only at hga hgs
 go_enter Tryz.func88, Tryz.ntmps88
 go_wp2
 go_loop [5] (fun e => ∃ k : Nat, a + k ≤ s.size ∧ e = .int .i64 ((a + k : Nat) : Int) ∧ ∀ j, j < k → ∀ h : a + j < s.size, isLD (s[a + j]'h) = true) (fun e => s.size - (intOf e).toNat)
 case atStart => exact ⟨0, by omega, rfl, fun j hj => by omega⟩
 case round =>
  obtain ⟨k, hk, rfl, hall⟩ := hrel
  have HA := Lib.hid hall
  clear hall
  by_cases hlt : a + k < s.size
  ·have hB := ld_any (s[a + k]'hlt)
   have hcut := cut_run s a k hk
   cases hp : isLD (s[a + k]'hlt)
   ·rw [hp] at hB
    have HP := Lib.hid hp
    clear hp
    go_wp2_with (go_at_call 91; ((with_reducible refine (hB _).mono ?_); rintro e w1 ⟨rfl, rfl⟩))
    go_ret
    exact ⟨by rw [span_on isLD s a k hlt HA.out HP.out]; rfl, rfl⟩
   ·rw [hp] at hB
    have HP := Lib.hid hp
    clear hp
    go_wp2_with (go_at_call 91; ((with_reducible refine (hB _).mono ?_); rintro e w1 ⟨rfl, rfl⟩))
    go_round
    case rel => exact ⟨k + 1, by omega, by go_num, fun j hj h => by
     by_cases e : j = k
     ·subst e; exact HP.out
     ·exact HA.out j (by omega) h⟩
    case measure => simp [intOf]; omega
  ·obtain ⟨k, rfl⟩ : ∃ m, m = k := ⟨_, rfl⟩
   have hk' : a + k = s.size := by omega
   have HE := Lib.hid (span_all isLD s a ha (fun j h => HA.out j (by omega) h))
   have HK := Lib.hid hk'
   have hcut := cut_run s a k hk
   clear hk'
   go_wp2
   go_ret
   exact ⟨by rw [HE.out, show a + (s.size - a) = a + k by have := HK.out; omega]; rfl, rfl⟩
theorem tog_digit (s : ByteArray) (a ga gs : Nat) (w : World) (hs : s.size ≤ 16384) (ha : a ≤ s.size) (ca : w.cell? ⟨ga, 0, none⟩ = some (.int .i64 (a : Int))) (cs : w.cell? ⟨gs, 0, none⟩ = some (.string s)) :
 Calls Tryz.prog 88 #[.func (.func 93) #[] #[], .pointer (some ⟨ga, 0, none⟩), .pointer (some ⟨gs, 0, none⟩)] w fun e w' => e = .returned (.string (s.extract a (a + spanL isD s a))) ∧ w = w' := by
 have hga := World.block_lt_of_cell? w _ ca
 have hgs := World.block_lt_of_cell? w _ cs
 simp only at hga hgs
 go_enter Tryz.func88, Tryz.ntmps88
 go_wp2
 go_loop [5] (fun e => ∃ k : Nat, a + k ≤ s.size ∧ e = .int .i64 ((a + k : Nat) : Int) ∧ ∀ j, j < k → ∀ h : a + j < s.size, isD (s[a + j]'h) = true) (fun e => s.size - (intOf e).toNat)
 case atStart => exact ⟨0, by omega, rfl, fun j hj => by omega⟩
 case round =>
  obtain ⟨k, hk, rfl, hall⟩ := hrel
  have HA := Lib.hid hall
  clear hall
  by_cases hlt : a + k < s.size
  ·have hB := digit_any (s[a + k]'hlt)
   have hcut := cut_run s a k hk
   cases hp : isD (s[a + k]'hlt)
   ·rw [hp] at hB
    have HP := Lib.hid hp
    clear hp
    go_wp2_with (go_at_call 93; ((with_reducible refine (hB _).mono ?_); rintro e w1 ⟨rfl, rfl⟩))
    go_ret
    exact ⟨by rw [span_on isD s a k hlt HA.out HP.out]; rfl, rfl⟩
   ·rw [hp] at hB
    have HP := Lib.hid hp
    clear hp
    go_wp2_with (go_at_call 93; ((with_reducible refine (hB _).mono ?_); rintro e w1 ⟨rfl, rfl⟩))
    go_round
    case rel => exact ⟨k + 1, by omega, by go_num, fun j hj h => by
     by_cases e : j = k
     ·subst e; exact HP.out
     ·exact HA.out j (by omega) h⟩
    case measure => simp [intOf]; omega
  ·obtain ⟨k, rfl⟩ : ∃ m, m = k := ⟨_, rfl⟩
   have hk' : a + k = s.size := by omega
   have HE := Lib.hid (span_all isD s a ha (fun j h => HA.out j (by omega) h))
   have HK := Lib.hid hk'
   have hcut := cut_run s a k hk
   clear hk'
   go_wp2
   go_ret
   exact ⟨by rw [HE.out, show a + (s.size - a) = a + k by have := HK.out; omega]; rfl, rfl⟩
theorem grow_below {w w' : World} (h : ∃ k os, w' = Sort.grow (w.drewN k) os) : Below w.heap.size w w' := by
 obtain ⟨k, os, rfl⟩ := h
 exact ⟨rfl, rfl, rfl, by simp [Sort.grow, World.drewN], fun j hj => by simp [Sort.grow, World.drewN]; rw [Array.getElem?_append_left (by simpa using hj)]⟩
theorem ifmt_any (u : Nat) (hu64 : u < 18446744073709551616) (w : World) (htab : PowOk w) :
 Calls Tryz.prog 124 #[.int .u64 (u : Int), .int .i64 10] w fun e w' => e = .returned (.string ⟨(Lib.decDigits u).toArray⟩) ∧ Below w.heap.size w w' := by
 by_cases h100 : u < 100
 ·have hS := Linternal_strconv_small u h100
  go_enter Tryz.func124, Tryz.ntmps124
  go_wp2_with (go_at_call 151; ((with_reducible refine (hS _).mono ?_); rintro e w1 ⟨rfl, rfl⟩))
  go_ret
  exact ⟨rfl, Below.refl _ _⟩
 ·have hu1 : 1 ≤ u := by omega
  have hnd20 : Lib.nDigits u ≤ 20 := by have := Lib.numDigits_eq u hu1 hu64; split at this <;> omega
  have hb3 : Lib.nDigits u ≤ 24 := by omega
  have hal : Tryz.prog.arrayLen 211 = 24 := by kernel_rfl
  have hsl1 : ∀ W, (Instr.sliceAt 211 (.pointer (some ⟨w.heap.size, 0, none⟩)) none (some (.int .i64 (Lib.nDigits u : Int))) none).run Tryz.prog W = .ok (.slice (some ⟨w.heap.size, 0, none⟩) (Lib.nDigits u) 24) W := fun W => by
   rw [run_sliceAt_array_h W 211 ⟨w.heap.size, 0, none⟩ (by kernel_rfl) .i64 (Lib.nDigits u : Int) (by omega) (by rw [hal]; omega)]
   go_simp
  have hH0 := Lib.holds_zero0 w 211 (Lib.nDigits u) hb3
  have hfmt := Linternal_strconv_formatBase10 w.heap.size 0 24 u (Array.replicate (Lib.nDigits u) 0) (w.alloc (.cells Lib.zeros24 211)) hH0 (by rw [Array.size_replicate]; exact Lib.lt_pow_nDigits u) hu64 (by rw [Array.size_replicate]; omega)
  rw [Array.size_replicate] at hfmt
  have HH0 := Lib.hid hH0
  clear hH0 hal
  have hn := Linternal_strconv_numDigits u hu1 hu64
  go_enter Tryz.func124, Tryz.ntmps124
  go_wp2_with (go_at_call 152; refine (hn _ (Lib.tabIs_alloc htab _)).mono ?_; rintro e w' ⟨rfl, rfl⟩)
  go_at_call 153
  refine hfmt.mono ?_
  rintro e w' ⟨rfl, k, v', dk, rfl, hF⟩
  have hcv : (convert 56 9 (.slice (some ⟨w.heap.size, 0, none⟩) (Lib.nDigits u) 24)).run Tryz.prog ((Sort.putRow (fun (b : UInt8) => Value.int .u8 (b.toNat : Int)) (w.alloc (.cells Lib.zeros24 211)) w.heap.size 0 dk).drewN k) = .ok (.string ⟨(Lib.decDigits u).toArray⟩) ((Sort.putRow (fun (b : UInt8) => Value.int .u8 (b.toNat : Int)) (w.alloc (.cells Lib.zeros24 211)) w.heap.size 0 dk).drewN k) := by
   have h := run_convert_bytes_back (P := Tryz.prog) ((Sort.putRow (fun (b : UInt8) => Value.int .u8 (b.toNat : Int)) (w.alloc (.cells Lib.zeros24 211)) w.heap.size 0 dk).drewN k) 56 9 5 ⟨w.heap.size, 0, none⟩ 24 (Lib.decDigits u) Tryz.underlying56 Tryz.underlying5 Tryz.underlying9 (fun j hj => by
    rw [Lib.row_is_numeral hF j hj, Lib.add_plain, World.cell?_drewN]
    exact Sort.cell?_putRow (fun (b : UInt8) => Value.int .u8 (b.toNat : Int)) _ w.heap.size 0 _ dk HH0.out (by rw [hF.size, Array.size_replicate]) j (by rw [hF.size]; rw [Lib.decDigits_length] at hj; exact hj))
   rw [Lib.decDigits_length] at h
   exact h
  go_wp2
  go_ret
  obtain ⟨os, eo⟩ := Lib.fin_at w (.cells Lib.zeros24 211) dk k 0
  exact ⟨rfl, grow_below ⟨k, os, eo⟩⟩
theorem digitsOf_any (u : Nat) (hu64 : u < 18446744073709551616) (w : World) (htab : PowOk w) :
 Calls Tryz.prog 45 #[.int .u64 (u : Int)] w fun e w' => e = .returned (.string (str (Lib.decDigits u))) ∧ Below w.heap.size w w' := by
 have h1 := ifmt_any u hu64 w htab
 have h2 : Calls Tryz.prog 73 #[.int .u64 (u : Int), .int .i64 10] w fun e w' => e = .returned (.string (str (Lib.decDigits u))) ∧ Below w.heap.size w w' := by
  go_enter Tryz.func73, Tryz.ntmps73
  go_wp2_with (go_at_call 124; ((with_reducible refine h1.mono ?_); rintro e w1 ⟨rfl, hb⟩))
  go_ret
  exact ⟨rfl, hb⟩
 clear h1
 go_enter Tryz.func45, Tryz.ntmps45
 go_wp2_with (go_at_call 73; ((with_reducible refine h2.mono ?_); rintro e w1 ⟨rfl, hb⟩))
 go_ret
 exact ⟨rfl, hb⟩
theorem clone_any (s : ByteArray) (hs : s.size ≤ 281474976710656) (w : World) : Calls Tryz.prog 132 #[.string s] w fun e w' => e = .returned (.string s) ∧ Below w.heap.size w w' := by
 have h1 := Lstringslite_Clone s w hs
 go_enter Tryz.func132, Tryz.ntmps132
 go_wp2_with (go_at_call 158; ((with_reducible refine h1.mono ?_); rintro e w1 ⟨rfl, hb⟩))
 go_ret
 exact ⟨rfl, hb⟩
def tkV (t : Tk) (a : Int) : Array Value := #[.int .u8 (t.k : Int), .string (str t.t), .int .u64 (t.n : Int), .int .i64 a]
theorem list_ne {s : ByteArray} (h : s.data.toList ≠ []) : (s.toList == []) = false ∧ s.toList.isEmpty = false := by
 rw [ByteArray.toList_eq]
 constructor
 ·simpa using h
 ·simpa using h
theorem sign_ok (s : ByteArray) (t : Tk) (m : List UInt8) (h : signP s.data.toList = .ok t m) (w : World) :
 Calls Tryz.prog 96 #[.string s] w fun e w' => e = .returned (.tuple #[.agg #[.int .u8 (t.k : Int), .string (str t.t), .int .u64 (t.n : Int), .int .i64 0], .nilIface]) ∧ Below w.heap.size w w' := by
 obtain ⟨rfl, hne, hk, ht, hn⟩ := signP_ok h
 obtain ⟨h1, h2⟩ := list_ne hne
 rw [hk, hn, ht, str_of]
 clear hk hn ht h hne
 go_enter Tryz.func96, Tryz.ntmps96
 go_wp2
 exact bodyPost_ret (v := .tuple #[.agg #[.int .u8 4, .string s, .int .u64 0, .int .i64 0], .nilIface]) (by simp [results, Tryz.results96, go_sem]) rfl ⟨rfl, ((Below.refl _ _).alloc (Nat.le_refl _) _)⟩
theorem sign_er (s : ByteArray) (e0 : Nat) (h : signP s.data.toList = .er e0) (w : World) :
 Calls Tryz.prog 96 #[.string s] w fun e w' => e = .returned (.tuple #[.agg #[.int .u8 0, .string ⟨#[]⟩, .int .u64 0, .int .i64 0], .iface 28 (.int .i64 (e0 : Int))]) ∧ Below w.heap.size w w' := by
 have : s.data.toList = [] ∧ e0 = 7 := by
  unfold signP at h
  split at h
  ·rename_i h0; cases h; exact ⟨h0, rfl⟩
  ·cases h
 obtain ⟨h0, rfl⟩ := this
 have hs : s = ⟨#[]⟩ := by rw [← str_of s, h0]; rfl
 subst hs
 clear h h0
 go_enter Tryz.func96, Tryz.ntmps96
 go_wp2
 exact bodyPost_ret (v := .tuple #[.agg #[.int .u8 0, .string ⟨#[]⟩, .int .u64 0, .int .i64 0], .iface 28 (.int .i64 7)]) (by simp [results, Tryz.results96, go_sem]) rfl ⟨rfl, ((Below.refl _ _).alloc (Nat.le_refl _) _)⟩
theorem named_er (s : ByteArray) (e0 : Nat) (h : nameP s.data.toList = .er e0) (hs : s.size ≤ 16384) (w : World) :
 Calls Tryz.prog 92 #[.string s] w fun e w' => e = .returned (.tuple #[.agg #[.int .u8 0, .string ⟨#[]⟩, .int .u64 0, .int .i64 0], .iface 28 (.int .i64 (e0 : Int))]) ∧ Below w.heap.size w w' := by
 have : 16 < s.size ∧ e0 = 5 := by
  unfold nameP at h
  split at h
  ·rename_i h0; cases h; exact ⟨h0, rfl⟩
  ·cases h
 obtain ⟨h0, rfl⟩ := this
 clear h
 go_enter Tryz.func92, Tryz.ntmps92
 go_wp2
 exact bodyPost_ret (v := .tuple #[.agg #[.int .u8 0, .string ⟨#[]⟩, .int .u64 0, .int .i64 0], .iface 28 (.int .i64 5)]) (by simp [results, Tryz.results92, go_sem]) rfl ⟨rfl, ((Below.refl _ _).alloc (Nat.le_refl _) _)⟩
theorem bcell {W w1 : World} (hb : Below W.heap.size W w1) : (∀ b o, b < W.heap.size → w1.cell? ⟨b, o, none⟩ = W.cell? ⟨b, o, none⟩) ∧ (∀ b o, b < W.heap.size → w1.frozen? ⟨b, o, none⟩ = W.frozen? ⟨b, o, none⟩) :=
 ⟨fun b o h => hb.cell (p := ⟨b, o, none⟩) h, fun b o h => hb.frozen (p := ⟨b, o, none⟩) h⟩
theorem named_ok (s : ByteArray) (t : Tk) (m : List UInt8) (h : nameP s.data.toList = .ok t m) (hs : s.size ≤ 16384) (w : World) (hT : WordsOk w) :
 Calls Tryz.prog 92 #[.string s] w fun e w' => e = .returned (.tuple #[.agg #[.int .u8 (t.k : Int), .string (str t.t), .int .u64 (t.n : Int), .int .i64 0], .nilIface]) ∧ Below w.heap.size w w' := by
 have : s.size ≤ 16 ∧ t = ⟨if isWd s.data.toList then 2 else 1, s.data.toList, 0⟩ := by
  unfold nameP at h
  split at h
  ·cases h
  ·rename_i h0; cases h; exact ⟨Nat.le_of_not_lt h0, rfl⟩
 obtain ⟨h16, rfl⟩ := this
 simp only
 rw [str_of]
 have hW := isWord_any s (w.alloc (.cells #[.int .u8 0, .string ⟨#[]⟩, .int .u64 0, .int .i64 0] 95)) (fun j hj => by
  have hb : Below w.heap.size w (w.alloc (.cells #[.int .u8 0, .string ⟨#[]⟩, .int .u64 0, .int .i64 0] 95)) := (Below.refl _ _).alloc (Nat.le_refl _) _
  exact stay hb (hT j hj))
 have hC := clone_any s (by omega)
 clear h hT
 cases hw : isWd s.data.toList
 all_goals
  rw [hw] at hW
  clear hw
  go_enter Tryz.func92, Tryz.ntmps92
  go_wp2_with (first | (go_at_call 131; ((with_reducible refine hW.mono ?_); rintro e w1 ⟨rfl, rfl⟩)) | (go_at_call 132; ((with_reducible refine (hC _).mono ?_); (rintro e w1 ⟨rfl, hb⟩); obtain ⟨hc, hf⟩ := bcell hb; have hz : w.heap.size < w1.heap.size := (by have := hb.size; simp at this; omega))))
 ·exact bodyPost_ret (v := .tuple #[.agg #[.int .u8 1, .string s, .int .u64 0, .int .i64 0], .nilIface]) (by simp [results, Tryz.results92, go_sem, hc]) rfl ⟨rfl, ((((((Below.refl _ _).alloc (Nat.le_refl _) _).trans (hb.mono (by simp))).setCell (by simp) _).setCell (by simp) _).setCell (by simp) _).setCell (by simp) _⟩
 ·exact bodyPost_ret (v := .tuple #[.agg #[.int .u8 2, .string s, .int .u64 0, .int .i64 0], .nilIface]) (by simp [results, Tryz.results92, go_sem, hc]) rfl ⟨rfl, ((((((Below.refl _ _).alloc (Nat.le_refl _) _).trans (hb.mono (by simp))).setCell (by simp) _).setCell (by simp) _).setCell (by simp) _).setCell (by simp) _⟩
theorem ok_of {s : ByteArray} {t : Tk} {m : List UInt8} (h : numP s.data.toList = .ok t m) : Lib.parseUintB 64 s.data.toList = .ok t.n ∧ t.k = 3 ∧ t.t = [] ∧ str (Lib.decDigits t.n) = s := by
 unfold numP at h
 split at h
 ·rename_i u hu
  split at h
  ·rename_i hd; cases h; exact ⟨hu, rfl, rfl, by simp only; rw [hd, str_of]⟩
  ·cases h
 ·cases h
theorem er_of {s : ByteArray} {e : Nat} (h : numP s.data.toList = .er e) : e = 7 ∧ ((∃ u, Lib.parseUintB 64 s.data.toList = .ok u ∧ Lib.decDigits u ≠ s.data.toList) ∨ ∀ u, Lib.parseUintB 64 s.data.toList ≠ .ok u) := by
 unfold numP at h
 split at h
 ·rename_i u hu
  split at h
  ·cases h
  ·rename_i hd; cases h; exact ⟨rfl, Or.inl ⟨u, hu, hd⟩⟩
 ·rename_i hx
  cases h
  exact ⟨rfl, Or.inr fun u hu => hx u hu⟩
theorem number_ok (s : ByteArray) (t : Tk) (m : List UInt8) (h : numP s.data.toList = .ok t m) (hs : s.size ≤ 16384) (w : World) (hT : Tb w) :
 Calls Tryz.prog 94 #[.string s] w fun e w' => e = .returned (.tuple #[.agg #[.int .u8 (t.k : Int), .string (str t.t), .int .u64 (t.n : Int), .int .i64 0], .nilIface]) ∧ Below w.heap.size w w' := by
 obtain ⟨hp, hk, ht, hd⟩ := ok_of h
 have hlt := (numP_ok h).2.2.2.2
 have hP := Lstrconv_ParseUint_10_at64_ok s (by omega) t.n hp
 have hP' : ∀ w, Calls Tryz.prog 133 #[.string s, .int .i64 10, .int .i64 64] w fun e w' => e = .returned (.tuple #[.int .u64 (t.n : Int), .nilIface]) ∧ Below w.heap.size w w' := fun w => (hP w).mono fun e w' h => ⟨h.1, by rcases h.2 with h | h <;> rw [h]; exact Below.refl _ _; exact Lib.bytesWorld_below _ _ _⟩
 have hD := digitsOf_any t.n hlt
 rw [hk, ht]
 clear hk ht hp h hP
 rw [hd] at hD
 go_enter Tryz.func94, Tryz.ntmps94
 go_wp2_with (first | (go_at_call 133; ((with_reducible refine (hP' _).mono ?_); (rintro e w1 ⟨rfl, hb⟩); obtain ⟨hc, hf⟩ := bcell hb; have hz : w.heap.size < w1.heap.size := (by have := hb.size; simp at this; omega); have hT1 : Tb w1 := ((hT.alloc _).of hb))) | (go_at_call 45; ((with_reducible refine (hD _ hT1.pow).mono ?_); (rintro e w2 ⟨rfl, hb2⟩); obtain ⟨hc2, hf2⟩ := bcell hb2; have hz2 : w.heap.size < w2.heap.size := (by have := hb2.size; omega))))
 refine bodyPost_ret (v := .tuple #[.agg #[.int .u8 3, .string ⟨#[]⟩, .int .u64 t.n, .int .i64 0], .nilIface]) (by simp [results, Tryz.results94, go_sem, hc, hc2, hz]) rfl ⟨rfl, ?_⟩
 have hB : Below w.heap.size w w2 := (((Below.refl _ _).alloc (Nat.le_refl _) _).trans (hb.mono (by simp))).trans (hb2.mono (Nat.le_of_lt hz))
 exact (((hB.setCell (by simp) _).setCell (by simp) _).setCell (by simp) _).setCell (by simp) _
theorem pu_err (s : ByteArray) (hs : s.size ≤ 16384) (h : ∀ u, Lib.parseUintB 64 s.data.toList ≠ .ok u) (w : World) (hT : Tb w) :
 Calls Tryz.prog 133 #[.string s, .int .i64 10, .int .i64 64] w fun e w' => (∃ (v : Int) (t : TypeId) (N : Nat), e = .returned (.tuple #[.int .u64 v, .iface t (.pointer (some ⟨N, 0, none⟩))])) ∧ Below w.heap.size w w' := by
 by_cases hr : Lib.parseUintB 64 s.data.toList = .range
 ·obtain ⟨tp, p, hv⟩ := hT.ran
  exact (Lstrconv_ParseUint_10_at64_range_var s (by omega) hr tp p w hv).mono fun e w' ⟨N, he, _, _, hb⟩ => ⟨⟨_, _, N, he⟩, hb⟩
 ·obtain ⟨tp, p, hv⟩ := hT.syn
  exact (Any.strconv_ParseUint_10_at64_syntax_var LlaysPu14 s (by omega) (by
   cases hq : Lib.parseUintB 64 s.data.toList
   all_goals first | rfl | exact absurd hq hr | exact absurd hq (h _)) tp p w hv).mono fun e w' ⟨N, he, _, _, hb⟩ => ⟨⟨_, _, N, he⟩, hb⟩
theorem number_er (s : ByteArray) (e0 : Nat) (h : numP s.data.toList = .er e0) (hs : s.size ≤ 16384) (w : World) (hT : Tb w) :
 Calls Tryz.prog 94 #[.string s] w fun e w' => e = .returned (.tuple #[.agg #[.int .u8 0, .string ⟨#[]⟩, .int .u64 0, .int .i64 0], .iface 28 (.int .i64 (e0 : Int))]) ∧ Below w.heap.size w w' := by
 obtain ⟨rfl, ⟨u, hp, hd⟩ | h2⟩ := er_of h
 ·have hlt : u < 18446744073709551616 := by have := Lib.parseUintB_le hp; omega
  have hP := Lstrconv_ParseUint_10_at64_ok s (by omega) u hp
  have hP' : ∀ w, Calls Tryz.prog 133 #[.string s, .int .i64 10, .int .i64 64] w fun e w' => e = .returned (.tuple #[.int .u64 (u : Int), .nilIface]) ∧ Below w.heap.size w w' := fun w => (hP w).mono fun e w' h => ⟨h.1, by rcases h.2 with h | h <;> rw [h]; exact Below.refl _ _; exact Lib.bytesWorld_below _ _ _⟩
  have hD := digitsOf_any u hlt
  have hne : ((str (Lib.decDigits u)).toList == s.toList) = false := by
   rw [ByteArray.toList_eq, ByteArray.toList_eq, str_list]
   simpa using hd
  generalize str (Lib.decDigits u) = d at hD hne
  clear hd hp h hP
  go_enter Tryz.func94, Tryz.ntmps94
  go_wp2_with (first | (go_at_call 133; ((with_reducible refine (hP' _).mono ?_); (rintro e w1 ⟨rfl, hb⟩); obtain ⟨hc, hf⟩ := bcell hb; have hz : w.heap.size < w1.heap.size := (by have := hb.size; simp at this; omega); have hT1 : Tb w1 := ((hT.alloc _).of hb))) | (go_at_call 45; ((with_reducible refine (hD _ hT1.pow).mono ?_); (rintro e w2 ⟨rfl, hb2⟩); obtain ⟨hc2, hf2⟩ := bcell hb2; have hz2 : w.heap.size < w2.heap.size := (by have := hb2.size; omega))))
  refine bodyPost_ret (v := .tuple #[.agg #[.int .u8 0, .string ⟨#[]⟩, .int .u64 0, .int .i64 0], .iface 28 (.int .i64 7)]) (by simp [results, Tryz.results94, go_sem, hc, hc2, hz]) rfl ⟨rfl, ?_⟩
  have hB : Below w.heap.size w w2 := (((Below.refl _ _).alloc (Nat.le_refl _) _).trans (hb.mono (by simp))).trans (hb2.mono (Nat.le_of_lt hz))
  exact (((hB.setCell (by simp) _).setCell (by simp) _).setCell (by simp) _).setCell (by simp) _
 ·have hP := pu_err s hs h2
  clear h h2
  go_enter Tryz.func94, Tryz.ntmps94
  go_wp2_with (go_at_call 133; ((with_reducible refine (hP _ (hT.alloc _)).mono ?_); (rintro e w1 ⟨⟨v, t, N, rfl⟩, hb⟩); obtain ⟨hc, hf⟩ := bcell hb; have hz : w.heap.size < w1.heap.size := (by have := hb.size; simp at this; omega)))
  refine bodyPost_ret (v := .tuple #[.agg #[.int .u8 0, .string ⟨#[]⟩, .int .u64 0, .int .i64 0], .iface 28 (.int .i64 7)]) (by simp [results, Tryz.results94, go_sem, hc]) rfl ⟨rfl, ?_⟩
  have hB : Below w.heap.size w w1 := ((Below.refl _ _).alloc (Nat.le_refl _) _).trans (hb.mono (by simp))
  exact (((hB.setCell (by simp) _).setCell (by simp) _).setCell (by simp) _).setCell (by simp) _
end
end Go.Proofs.YtfbjljcmmbdhkaaGreatDoor
