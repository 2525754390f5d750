/- The laid variables of package lex, and those of the library that it stands on: what they hold at a call's beginning, and that calls keep it. -/
import Derived.Test.YtfpoflddnlbpjaaGreatDoorYlP
import Derived.Test.YtfpoflddnlbpjaaGreatDoorZaP
import Derived.Test.YtfpoflddnlbpjaaGreatDoorShelf
import Derived.LaidLaws
import Derived.LaidHandle
import Derived.Stop.Joined
import Derived.ProofKit
import Derived.OpenShut
import Derived.LaidMore
import Derived.Handy
import Derived.Outline
import Derived.Deep.QuietTactic
import Derived.BigQuiet
import Derived.Lib.Hide
import Derived.Deep.MidRow
namespace Go.Proofs.YtfpoflddnlbpjaaGreatDoor
open Go.ChangeShapes Go.WideShapes Go.ChangeAt Go.RowKit
set_option linter.unusedVariables false
def str (l : List UInt8) : ByteArray := ⟨l.toArray⟩
theorem str_list (a : List UInt8) : (str a).data.toList = a := by simp [str]
theorem str_of (s : ByteArray) : str s.data.toList = s := by cases s; simp [str]
theorem stay {w w' : World} (hb : Below w.heap.size w w') {p : Addr} {v : Value} (h : w.cell? p = some v) : w'.cell? p = some v := (hb.cell (World.block_lt_of_cell? w _ h)).trans h
def laidPl : List (String × DataW Unit) := [("math/bits.deBruijn32tab", Rows.laid_math_bits_deBruijn32tab), ("math/bits.deBruijn64tab", Rows.laid_math_bits_deBruijn64tab), ("internal/strconv.uint64pow10", Rows.laid_internal_strconv_uint64pow10), ("strconv.ErrRange", Rows.laid_strconv_ErrRange), ("strconv.ErrSyntax", Rows.laid_strconv_ErrSyntax), ("sacristy/lex.words", Rows.laid_sacristy_lex_words), ("sacristy/lex.signs", Rows.laid_sacristy_lex_signs), ("sacristy/expr.signs", Rows.laid_sacristy_expr_signs), ("sacristy/stmt.kinds", Rows.laid_sacristy_stmt_kinds)]
def laidAll : List (String × DataW Unit) := [("math/bits.deBruijn32tab", Rows.laid_math_bits_deBruijn32tab), ("math/bits.deBruijn64tab", Rows.laid_math_bits_deBruijn64tab), ("internal/strconv.uint64pow10", Rows.laid_internal_strconv_uint64pow10), ("errors.errorType", Rows.laid_errors_errorType), ("strconv.ErrRange", Rows.laid_strconv_ErrRange), ("strconv.ErrSyntax", Rows.laid_strconv_ErrSyntax), ("sacristy/lex.words", Rows.laid_sacristy_lex_words), ("sacristy/lex.signs", Rows.laid_sacristy_lex_signs), ("sacristy/expr.signs", Rows.laid_sacristy_expr_signs), ("sacristy/stmt.kinds", Rows.laid_sacristy_stmt_kinds)]
theorem laid_split {W : World} (h : laidMetH Tryz.prog laidAll W) : laidMet Tryz.prog laidPl W ∧ handlesMet Tryz.prog [("errors.errorType", Rows.laid_errors_errorType)] W := h
def WordsOk (w : World) : Prop := ∀ j < 16, w.cell? ⟨3, j, none⟩ = some (.string (str (wordsL.getD j [])))
def SignsOk (w : World) : Prop := ∀ j < 25, w.cell? ⟨2, j, none⟩ = some (.string (str (signsL.getD j [])))
def ESignsOk (w : World) : Prop := ∀ j < 15, w.cell? ⟨9, j, none⟩ = some (.string (str (opsL.getD j [])))
def kindsN : List (Nat × Nat × Bool × Bool × Int × Int × Int × Bool × Bool) := [(0, 0, false, false, 0, 0, 0, false, false), (2, 0, true, false, 1, 1, 0, false, false), (2, 0, false, false, 1, 1, 0, false, false), (2, 0, true, false, 1, 1, 0, false, false), (2, 0, false, false, 2, 2, 0, false, false), (0, 0, false, false, 1, 1, 0, true, true), (0, 0, false, false, 1, 1, 0, true, false), (2, 0, false, false, 1, 1, 0, true, false), (2, 2, false, true, 2, 2, 0, true, false), (2, 2, false, false, 0, 0, 0, false, false), (2, 0, false, false, 1, 1, 0, false, false), (1, 2, false, false, 0, 8, 8, false, false), (0, 0, false, false, 0, 0, 0, false, false)]
def kindsC : List Value := kindsN.flatMap fun x => [.int .u8 (x.1 : Int), .int .u8 (x.2.1 : Int), .bool x.2.2.1, .bool x.2.2.2.1, .int .i64 x.2.2.2.2.1, .int .i64 x.2.2.2.2.2.1, .int .i64 x.2.2.2.2.2.2.1, .bool x.2.2.2.2.2.2.2.1, .bool x.2.2.2.2.2.2.2.2]
def KindsOk (w : World) : Prop := ∀ j < 117, w.cell? ⟨1, j, none⟩ = some (kindsC.getD j (.bool false))
def PowOk (w : World) : Prop := Lib.TabIs Tryz.prog w "internal/strconv.uint64pow10" .u64 Lib.pow10Tab
def EtyOk (w : World) : Prop := w.cell? ⟨0, 0, none⟩ = some (.iface 124 (.agg #[.pointer (some ⟨12, 32, none⟩)]))
def SynOk (w : World) : Prop := ∃ tp p, w.var? Tryz.prog "strconv.ErrSyntax" = some #[.iface tp p]
def RanOk (w : World) : Prop := ∃ tp p, w.var? Tryz.prog "strconv.ErrRange" = some #[.iface tp p]
structure Tb (w : World) : Prop where
  words : WordsOk w
  signs : SignsOk w
  pow : PowOk w
  ety : EtyOk w
  syn : SynOk w
  ran : RanOk w
  esg : ESignsOk w
  kn : KindsOk w
theorem var_stay {w w' : World} (hb : Below w.heap.size w w') {n : String} {cs : Array Value} (h : w.var? Tryz.prog n = some cs) : w'.var? Tryz.prog n = some cs := by
  unfold World.var? at h ⊢
  cases hg : Tryz.prog.globalNamed n with
  | none => rw [hg] at h; simp at h
  | some g =>
    rw [hg] at h
    simp only [Option.bind_some] at h ⊢
    have hlt : g < w.heap.size := by
      rcases Nat.lt_or_ge g w.heap.size with h1 | h1
      · exact h1
      · rw [Array.getElem?_eq_none h1] at h; simp at h
    rw [hb.block g hlt]
    exact h
theorem Tb.of {w w' : World} (h : Tb w) (hb : Below w.heap.size w w') : Tb w' :=
  ⟨fun j hj => stay hb (h.words j hj), fun j hj => stay hb (h.signs j hj), var_stay hb h.pow, stay hb h.ety, let ⟨a, b, c⟩ := h.syn; ⟨a, b, var_stay hb c⟩, let ⟨a, b, c⟩ := h.ran; ⟨a, b, var_stay hb c⟩, fun j hj => stay hb (h.esg j hj), fun j hj => stay hb (h.kn j hj)⟩
theorem bdN {B : Nat} {a w : World} (h : Below B a w) (n : Nat) : Below B a (w.drewN n) := h.trans ⟨rfl, rfl, rfl, Nat.le_refl _, fun _ _ => rfl⟩
theorem Tb.alloc {w : World} (h : Tb w) (o : Obj) : Tb (w.alloc o) := h.of ((Below.refl _ _).alloc (Nat.le_refl _) _)
theorem Tb.drewN {w : World} (h : Tb w) (n : Nat) : Tb (w.drewN n) := h.of (bdN (Below.refl _ _) n)
theorem gWords : Tryz.prog.globalNamed "sacristy/lex.words" = some 3 := by kernel_rfl
theorem gSigns : Tryz.prog.globalNamed "sacristy/lex.signs" = some 2 := by kernel_rfl
theorem tWords : (Tryz.prog.globals[3]?).map (·.type) = some 215 := by kernel_rfl
theorem gESigns : Tryz.prog.globalNamed "sacristy/expr.signs" = some 9 := by kernel_rfl
theorem tESigns : (Tryz.prog.globals[9]?).map (·.type) = some 264 := by kernel_rfl
theorem tSigns : (Tryz.prog.globals[2]?).map (·.type) = some 192 := by kernel_rfl
theorem gKinds : Tryz.prog.globalNamed "sacristy/stmt.kinds" = some 1 := by kernel_rfl
theorem tKinds : (Tryz.prog.globals[1]?).map (·.type) = some 186 := by kernel_rfl
def kindsLv : List (Nat × Value) := (List.range 117).flatMap fun j => [(j, kindsC.getD j (.bool false))]
theorem lKinds : leaves Tryz.prog 5 186 0 Rows.laid_sacristy_stmt_kinds = some kindsLv := by kernel_rfl
def wordsLv : List (Nat × Value) := (List.range 16).flatMap fun j => [(j, .string (str (wordsL.getD j [])))]
def signsLv : List (Nat × Value) := (List.range 25).flatMap fun j => [(j, .string (str (signsL.getD j [])))]
def esignsLv : List (Nat × Value) := (List.range 15).flatMap fun j => [(j, .string (str (opsL.getD j [])))]
theorem lESigns : leaves Tryz.prog 5 264 0 Rows.laid_sacristy_expr_signs = some esignsLv := by kernel_rfl
theorem lWords : leaves Tryz.prog 5 215 0 Rows.laid_sacristy_lex_words = some wordsLv := by kernel_rfl
theorem lSigns : leaves Tryz.prog 5 192 0 Rows.laid_sacristy_lex_signs = some signsLv := by kernel_rfl
theorem words_of {W : World} (h : laidMet Tryz.prog laidPl W) : WordsOk W := fun k hk => by
  obtain ⟨ps, hv, _⟩ := h
  have hl := laidVars_leaves "sacristy/lex.words" Rows.laid_sacristy_lex_words 3 215 5 wordsLv gWords tWords lWords _ ps (List.Mem.tail _ (List.Mem.tail _ (List.Mem.tail _ (List.Mem.tail _ (List.Mem.tail _ (List.Mem.head _)))))) hv
  exact hl _ (List.mem_flatMap.2 ⟨k, List.mem_range.2 hk, List.Mem.head _⟩)
theorem signs_of {W : World} (h : laidMet Tryz.prog laidPl W) : SignsOk W := fun k hk => by
  obtain ⟨ps, hv, _⟩ := h
  have hl := laidVars_leaves "sacristy/lex.signs" Rows.laid_sacristy_lex_signs 2 192 5 signsLv gSigns tSigns lSigns _ ps (List.Mem.tail _ (List.Mem.tail _ (List.Mem.tail _ (List.Mem.tail _ (List.Mem.tail _ (List.Mem.tail _ (List.Mem.head _))))))) hv
  exact hl _ (List.mem_flatMap.2 ⟨k, List.mem_range.2 hk, List.Mem.head _⟩)
theorem esigns_of {W : World} (h : laidMet Tryz.prog laidPl W) : ESignsOk W := fun k hk => by
  obtain ⟨ps, hv, _⟩ := h
  have hl := laidVars_leaves "sacristy/expr.signs" Rows.laid_sacristy_expr_signs 9 264 5 esignsLv gESigns tESigns lESigns _ ps (List.Mem.tail _ (List.Mem.tail _ (List.Mem.tail _ (List.Mem.tail _ (List.Mem.tail _ (List.Mem.tail _ (List.Mem.tail _ (List.Mem.head _)))))))) hv
  exact hl _ (List.mem_flatMap.2 ⟨k, List.mem_range.2 hk, List.Mem.head _⟩)
theorem kinds_of {W : World} (h : laidMet Tryz.prog laidPl W) : KindsOk W := fun k hk => by
  obtain ⟨ps, hv, _⟩ := h
  have hl := laidVars_leaves "sacristy/stmt.kinds" Rows.laid_sacristy_stmt_kinds 1 186 5 kindsLv gKinds tKinds lKinds _ ps (List.Mem.tail _ (List.Mem.tail _ (List.Mem.tail _ (List.Mem.tail _ (List.Mem.tail _ (List.Mem.tail _ (List.Mem.tail _ (List.Mem.tail _ (List.Mem.head _))))))))) hv
  exact hl _ (List.mem_flatMap.2 ⟨k, List.mem_range.2 hk, List.Mem.head _⟩)
theorem pow_of {W : World} (h : laidMet Tryz.prog laidPl W) : PowOk W := by
  obtain ⟨ps, hv, _⟩ := h
  exact laidVars_tab "internal/strconv.uint64pow10" .u64 Lib.pow10Tab 5 242 50 20 (by kernel_rfl) (by kernel_rfl) (by kernel_rfl) (by kernel_rfl) (by kernel_rfl) (by kernel_rfl) _ ps (List.Mem.tail _ (List.Mem.tail _ (List.Mem.head _))) hv
theorem laidVars_iface {w : World} (nm : String) (d : DataW Unit) (un : String) (g : Nat) (t : TypeId) (ms : Array (String × TypeId))
    (hg : Tryz.prog.globalNamed nm = some g) (ht : (Tryz.prog.globals[g]?).map (·.type) = some t) (hi : Tryz.prog.underlying t = some (.interface ms)) :
    ∀ (l : List (String × DataW Unit)) (ps : List MemPlace), (nm, DataW.iface un d) ∈ l → DataW.LaidVars Tryz.prog w l ps → ∃ tp p, w.var? Tryz.prog nm = some #[.iface tp p] := by
  intro l
  induction l with
  | nil => intro ps h; cases h
  | cons y r ih =>
    intro ps hm hv
    obtain ⟨g0, t0, cs, fuel, p, q, hg0, ht0, hvar, hd, hr, _⟩ := hv
    rcases List.mem_cons.1 hm with rfl | hm'
    · obtain rfl := Option.some.inj (hg.symm.trans hg0)
      obtain rfl := Option.some.inj (ht.symm.trans ht0)
      obtain ⟨_, u, v, e, _⟩ := iface_of_trod hi hd
      exact ⟨u, v, by rw [hvar, Array.eq_one_of_toList e]⟩
    · exact ih q hm' hr
theorem syn_of {W : World} (h : laidMet Tryz.prog laidPl W) : SynOk W := by
  obtain ⟨ps, hv, _⟩ := h
  exact laidVars_iface "strconv.ErrSyntax" _ _ 6 32 _ (by kernel_rfl) (by kernel_rfl) Tryz.underlying32 _ ps (List.Mem.tail _ (List.Mem.tail _ (List.Mem.tail _ (List.Mem.tail _ (List.Mem.head _))))) hv
theorem ran_of {W : World} (h : laidMet Tryz.prog laidPl W) : RanOk W := by
  obtain ⟨ps, hv, _⟩ := h
  exact laidVars_iface "strconv.ErrRange" _ _ 7 32 _ (by kernel_rfl) (by kernel_rfl) Tryz.underlying32 _ ps (List.Mem.tail _ (List.Mem.tail _ (List.Mem.tail _ (List.Mem.head _)))) hv
theorem etG : Tryz.prog.globalNamed "errors.errorType" = some 0 := by kernel_rfl
theorem rtT : (Tryz.prog.cutTypes.find? (·.1 == "internal/reflectlite.rtype")).map (·.2) = some 124 := by kernel_rfl
theorem oneRow : ((List.range Tryz.prog.types.size).filter fun t => Tryz.prog.rowNamed t [101, 114, 114, 111, 114]) = [32] := by kernel_rfl
theorem ety_of {W : World} (h : handlesMet Tryz.prog [("errors.errorType", Rows.laid_errors_errorType)] W) : EtyOk W := by
  obtain ⟨name, u, ty, e1, e2, e3, e4, e5⟩ := h _ (List.mem_singleton.2 rfl)
  have en : name = [101, 114, 114, 111, 114] := (Option.some.inj e1).symm
  subst en
  obtain rfl := Option.some.inj (rtT.symm.trans e2)
  have hm : ty ∈ (List.range Tryz.prog.types.size).filter fun t => Tryz.prog.rowNamed t [101, 114, 114, 111, 114] := List.mem_filter.2 ⟨List.mem_range.2 e3, e4⟩
  rw [oneRow] at hm
  obtain rfl := List.mem_singleton.1 hm
  have hh : typeHandle Tryz.prog 32 = .pointer (some ⟨Tryz.prog.globals.size, 32, none⟩) := rfl
  rw [hh] at e5
  have hs : Tryz.prog.globals.size = 12 := by kernel_rfl
  rw [hs] at e5
  unfold EtyOk
  simpa using World.var?_cell etG e5 0
theorem tb_of_laid {W : World} (h : laidMetH Tryz.prog laidAll W) : Tb W := by
  obtain ⟨h1, h2⟩ := laid_split h
  exact ⟨words_of h1, signs_of h1, pow_of h1, ety_of h2, syn_of h1, ran_of h1, esigns_of h1, kinds_of h1⟩
theorem door_met (os : Os) (args : Array Value) : laidMetH Tryz.prog laidAll ((World.doorLaid Tryz.prog 400 os).forCall (fun _ _ => 0) ⟨#[], args, []⟩).memory :=
  laidMetH_of_parts3 (fuel := 8) (laidMet_of_run' 8 (by kernel_rfl) (by kernel_rfl)) (by kernel_rfl) (by kernel_rfl)
end Go.Proofs.YtfpoflddnlbpjaaGreatDoor

/- Contracts of the tables of package lex: isWord, longestSign. -/
namespace Go.Proofs.YtfpoflddnlbpjaaGreatDoor
open Go.ChangeShapes Go.WideShapes Go.ChangeAt Go.RowKit
set_option linter.unusedVariables false
theorem run_ix (ty n : Nat) (cs : List Value) (k : Nat) (s : ByteArray) (W : World) (hu : Tryz.prog.underlying ty = some (.array n 9)) (hk : k < n) (h : cs[k]? = some (.string s)) :
    (Instr.index ty (.agg cs.toArray) (.int .i64 (k : Int))).run Tryz.prog W = .ok (.string s) W := by
  have hs : (sizeOf 9).run Tryz.prog W = .ok 1 W := by kernel_rfl
  have hi : (0 : Int) ≤ (k : Int) ∧ (k : Int) < (n : Int) := by omega
  simp [Instr.index, run_underlying hu, asIntOf, hi, go_sem, hs, h]
  omega
theorem str_inj {s t : ByteArray} (h : s.data.toList = t.data.toList) : s = t := by rw [← str_of s, ← str_of t, h]
theorem str_eq_beq (s t : ByteArray) : (s.data.toList == t.data.toList) = decide (s = t) := by
  rw [Bool.eq_iff_iff]
  simp only [beq_iff_eq, decide_eq_true_eq]
  exact ⟨str_inj, fun h => by rw [h]⟩
theorem mem_getD {l : List (List UInt8)} {x : List UInt8} (n : Nat) (hn : l.length = n) : l.contains x = true ↔ ∃ j, j < n ∧ l.getD j [] = x := by
  subst hn
  rw [List.contains_iff_mem]
  constructor
  · intro h
    obtain ⟨j, hj, e⟩ := List.getElem_of_mem h
    exact ⟨j, hj, by rw [List.getD_eq_getElem?_getD, List.getElem?_eq_getElem hj]; exact e⟩
  · rintro ⟨j, hj, e⟩
    rw [← e, List.getD_eq_getElem?_getD, List.getElem?_eq_getElem hj]
    exact List.getElem_mem hj
theorem tab_list (V : Nat → ByteArray) (n : Nat) : ∃ cs : List Value, cs.length = n ∧ (∀ k < n, cs[k]? = some (.string (V k))) ∧ ∀ j v, cs[j]? = some v → j < n ∧ v = .string (V j) :=
  ⟨(List.range n).map fun j => .string (V j), by simp, fun k hk => by simp [hk], fun j v h => by
    rw [List.getElem?_map, Option.map_eq_some_iff] at h
    obtain ⟨i, hi, rfl⟩ := h
    obtain ⟨hj, rfl⟩ := List.getElem?_eq_some_iff.1 hi
    simp at hj ⊢
    exact hj⟩
theorem isWd_iff (l : List UInt8) : isWd l = true ↔ ∃ j, j < 16 ∧ wordsL.getD j [] = l := mem_getD 16 rfl
set_option maxRecDepth 100000 in
theorem isWord_any (s : ByteArray) (w : World) (hT : WordsOk w) : Calls Tryz.prog 130 #[.string s] w fun e w' => e = .returned (.bool (isWd s.data.toList)) ∧ w = w' := by
  obtain ⟨V, hVd, hV⟩ : ∃ V : Nat → ByteArray, (∀ j, V j = str (wordsL.getD j [])) ∧ ∀ j < 16, w.cell? ⟨3, j, none⟩ = some (.string (V j)) := ⟨fun j => str (wordsL.getD j []), fun _ => rfl, hT⟩
  have HD := Lib.hid hVd
  clear hVd hT
  obtain ⟨cs, hl, hg, hc⟩ := tab_list V 16
  have hR0 : w.rangeAt 3 0 cs := fun j v h => by obtain ⟨h1, rfl⟩ := hc j v h; rw [Nat.zero_add]; exact hV j h1
  have hI0 : (Tryz.prog.info? 215).map (·.size) = some cs.length := by rw [hl]; kernel_rfl
  have HR0 := Lib.hid hR0
  have HI0 := Lib.hid hI0
  clear hR0 hI0
  have HG := Lib.hid hg
  clear hV hg hc hl
  go_enter Tryz.func130, Tryz.ntmps130
  go_wp2_with (with_reducible refine wpList_load_mid rfl _ _ rfl 3 0 rfl cs _ HR0.out Tryz.underlying215 rfl HI0.out ?_)
  go_loop [6] (fun i => ∃ k : Nat, k ≤ 16 ∧ i = .int .i64 k ∧ ∀ j, j < k → V j ≠ s) (fun i => 16 - (intOf i).toNat)
  case atStart => exact ⟨0, by omega, rfl, fun j hj => by omega⟩
  case round =>
    obtain ⟨k, hk, rfl, hno⟩ := hrel
    have HN := Lib.hid hno
    clear hno
    by_cases hlt : k < 16
    · have hx := fun W => run_ix 215 16 cs k (V k) W Tryz.underlying215 hlt (HG.out k hlt)
      by_cases he : V k = s
      · subst he
        go_wp2
        go_ret
        refine ⟨congrArg (fun b => Ending.returned (Value.bool b)) (Eq.symm ?_), rfl⟩
        rw [isWd_iff]
        exact ⟨k, hlt, by rw [HD.out k, str_list]⟩
      · have hne : ((V k).toList == s.toList) = false := by
          rw [ByteArray.toList_eq, ByteArray.toList_eq, str_eq_beq]; simpa using he
        go_wp2
        go_round
        case rel => exact ⟨k + 1, by omega, by go_num, fun j hj => by
          by_cases e : j = k
          · rw [e]; exact he
          · exact HN.out j (by omega)⟩
        case measure => simp [intOf]; omega
    · obtain rfl : k = 16 := by omega
      go_wp2
      go_ret
      refine ⟨congrArg (fun b => Ending.returned (Value.bool b)) (Eq.symm ?_), rfl⟩
      rw [Bool.eq_false_iff]
      intro h
      rw [isWd_iff] at h
      obtain ⟨j, hj, e⟩ := h
      exact HN.out j hj (by rw [HD.out j, e, str_of])
theorem lsF_step (k : Nat) (hk : k < 25) (b l : List UInt8) : lsF (signsL.drop k) b l = lsF (signsL.drop (k + 1)) (if b.length < (signsL.getD k []).length ∧ (signsL.getD k []).isPrefixOf l = true then signsL.getD k [] else b) l := by
  have hk' : k < signsL.length := hk
  have e : signsL.drop k = signsL.getD k [] :: signsL.drop (k + 1) := by
    rw [List.drop_eq_getElem_cons hk', List.getD_eq_getElem?_getD, List.getElem?_eq_getElem hk']; rfl
  rw [e, lsF]
theorem ls_start (l : List UInt8) : lsF (signsL.drop 0) (⟨#[]⟩ : ByteArray).data.toList l = ls l := by rw [List.drop_zero]; unfold ls; rfl
theorem ls_stop (b l : List UInt8) : lsF (signsL.drop 25) b l = b := by rw [show signsL.drop 25 = [] by decide, lsF]
set_option maxRecDepth 100000 in
theorem longestSign_any (s : ByteArray) (w : World) (hT : SignsOk w) : Calls Tryz.prog 95 #[.string s] w fun e w' => e = .returned (.string (str (ls s.data.toList))) ∧ w = w' := by
  obtain ⟨V, hVd, hV⟩ : ∃ V : Nat → ByteArray, (∀ j, V j = str (signsL.getD j [])) ∧ ∀ j < 25, w.cell? ⟨2, j, none⟩ = some (.string (V j)) := ⟨fun j => str (signsL.getD j []), fun _ => rfl, hT⟩
  have HD := Lib.hid hVd
  clear hVd hT
  obtain ⟨cs, hl, hg, hc⟩ := tab_list V 25
  have hR0 : w.rangeAt 2 0 cs := fun j v h => by obtain ⟨h1, rfl⟩ := hc j v h; rw [Nat.zero_add]; exact hV j h1
  have hI0 : (Tryz.prog.info? 192).map (·.size) = some cs.length := by rw [hl]; kernel_rfl
  have HR0 := Lib.hid hR0
  have HI0 := Lib.hid hI0
  clear hR0 hI0
  have HG := Lib.hid hg
  clear hV hg hc hl
  obtain ⟨R, hR⟩ : ∃ R, R = ls s.data.toList := ⟨_, rfl⟩
  rw [← hR]
  have HR := Lib.hid hR
  clear hR
  go_enter Tryz.func95, Tryz.ntmps95
  go_wp2_with (with_reducible refine wpList_load_mid rfl _ _ rfl 2 0 rfl cs _ HR0.out Tryz.underlying192 rfl HI0.out ?_)
  go_loop [3, 7] (fun g i => ∃ (k : Nat) (B : ByteArray), k ≤ 25 ∧ i = .int .i64 k ∧ g = .string B ∧ Hid (lsF (signsL.drop k) B.data.toList s.data.toList = R)) (fun _ i => 25 - (intOf i).toNat)
  case atStart => exact ⟨0, ⟨#[]⟩, by omega, rfl, rfl, Lib.hid (by rw [HR.out]; exact ls_start _)⟩
  case round =>
    obtain ⟨k, B, hk, rfl, rfl, hB⟩ := hrel
    by_cases hlt : k < 25
    · have hx := fun W => run_ix 192 25 cs k (V k) W Tryz.underlying192 hlt (HG.out k hlt)
      have HS := Lib.hid (lsF_step k hlt B.data.toList s.data.toList)
      have e1 : (V k).data.toList = signsL.getD k [] := by rw [HD.out k, str_list]
      have HE := Lib.hid e1
      have hz : (signsL.getD k []).length = (V k).size := by rw [← e1]; rfl
      have HZ := Lib.hid hz
      clear e1 hz
      have hp := Lstrings_HasPrefix s (V k)
      by_cases hl : B.size < (V k).size
      · cases hq : (signsL.getD k []).isPrefixOf s.data.toList
        · rw [show Lib.hasPrefix s.data.toList (V k).data.toList = false by rw [HE.out]; exact hq] at hp
          have HQ := Lib.hid hq
          clear hq
          go_wp2_with (go_at_call 70; ((with_reducible refine (hp _).mono ?_); rintro e w1 ⟨rfl, rfl⟩))
          go_round
          case rel => exact ⟨k + 1, B, by omega, by go_num, rfl, Lib.hid (by rw [← hB.out, HS.out, if_neg (fun h => by rw [HQ.out] at h; simp at h)])⟩
          case measure => simp [intOf]; omega
        · rw [show Lib.hasPrefix s.data.toList (V k).data.toList = true by rw [HE.out]; exact hq] at hp
          have HQ := Lib.hid hq
          clear hq
          go_wp2_with (go_at_call 70; ((with_reducible refine (hp _).mono ?_); rintro e w1 ⟨rfl, rfl⟩))
          go_round
          case rel => exact ⟨k + 1, V k, by omega, by go_num, rfl, Lib.hid (by rw [← hB.out, HS.out, if_pos ⟨by rw [HZ.out]; exact hl, HQ.out⟩, HE.out])⟩
          case measure => simp [intOf]; omega
      · go_wp2_with (go_at_call 70; ((with_reducible refine (hp _).mono ?_); rintro e w1 ⟨rfl, rfl⟩))
        go_round
        case rel => exact ⟨k + 1, B, by omega, by go_num, rfl, Lib.hid (by rw [← hB.out, HS.out, if_neg (fun h => hl (by rw [← HZ.out]; exact h.1))])⟩
        case measure => simp [intOf]; omega
    · obtain rfl : k = 25 := by omega
      have e : B = str R := by have h := hB.out; rw [ls_stop] at h; rw [← h, str_of]
      subst e
      go_wp2
      go_ret
      exact ⟨rfl, rfl⟩
end Go.Proofs.YtfpoflddnlbpjaaGreatDoor
