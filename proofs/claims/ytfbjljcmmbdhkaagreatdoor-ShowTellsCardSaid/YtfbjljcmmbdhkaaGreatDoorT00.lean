/- What a laid table of plain data (bools, integers, structs, arrays) reads as, cell by cell: for whatever program. -/
import Derived.Test.YtfbjljcmmbdhkaaGreatDoorRows
import Derived.ChangeArms
import Derived.DataReads
import Derived.OpenShut
import Derived.LaidMore
import Derived.FnData
import Derived.LaidByTextLater
import Derived.Lib.LaidTab
import Derived.Lib.ParseIntBCases
import Derived.Lib.ItoaNum
import Derived.Lib.Join
namespace Go.Proofs.YtfbjljcmmbdhkaaGreatDoor
set_option linter.unusedVariables false
set_option linter.unusedSimpArgs false
set_option maxRecDepth 100000
set_option maxHeartbeats 200000000
section
open Go
def leaves (P : Program) : Nat → TypeId → Nat → DataW Unit → Option (List (Nat × Value))
 | 0, _, _, _ => none
 | n + 1, t, off, d =>
  match P.underlying t, d with
  | some .bool, .lit (.bool b) => some [(off, .bool b)]
  | some (.int _), .lit (.int k m) => some [(off, .int k m)]
  | some .string, .lit (.string l) => some [(off, .string ⟨l.toArray⟩)]
  | some (.struct fs), .agg parts => ((fs.toList.zip parts).mapM fun x => leaves P n x.1.type (off + x.1.offset) x.2).map List.flatten
  | some (.array m e), .agg parts => (((List.range m).zip parts).mapM fun x => leaves P n e (off + x.1 * P.cellsOf e) x.2).map List.flatten
  | _, _ => none
theorem cut_get {cs : List Value} {o c i : Nat} {v : Value} (h : ((cs.drop o).take c)[i]? = some v) : cs[o + i]? = some v := by
 rw [List.getElem?_take] at h
 split at h
 ·rw [List.getElem?_drop] at h; exact h
 ·cases h
theorem leaves_read {P : Program} {w : World} {base : Nat} {sp : Nat → Bool} {held : Bool} {enc : TypeId × Value → Unit} : ∀ (n fuel : Nat) (t : TypeId) (off : Nat) (cs : List Value) (d : DataW Unit) (p : List MemPlace) (L : List (Nat × Value)),
 DataW.trod enc P w base sp held fuel t cs = some (d, p) → leaves P n t off d = some L → ∀ x ∈ L, off ≤ x.1 ∧ cs[x.1 - off]? = some x.2 := by
 intro n
 induction n with
 | zero => intro fuel t off cs d p L _ h; simp [leaves] at h
 | succ n ih =>
  intro fuel t off cs d p L ht hl x hx
  unfold leaves at hl
  split at hl
  ·rename_i b hu
   obtain ⟨b', rfl, hd⟩ := DataW.trod_bool hu ht
   simp at hd hl
   subst hl
   obtain ⟨hb, _⟩ := hd
   simp at hx; subst hx; simp [hb]
  ·rename_i k0 k m hu
   obtain ⟨m', rfl, hd, _⟩ := DataW.trod_int hu ht
   simp at hd hl
   subst hl
   obtain ⟨⟨hk, hm⟩, _⟩ := hd
   simp at hx; subst hx; simp [hk, hm]
  ·rename_i l hu
   obtain ⟨s, rfl, hd, _⟩ := DataW.trod_string hu ht
   simp only [Prod.mk.injEq, DataW.lit.injEq, Lit.string.injEq] at hd
   simp only [Option.some.injEq] at hl
   subst hl
   obtain ⟨rfl, _⟩ := hd
   simp only [List.mem_singleton] at hx; subst hx; simp
  ·rename_i fs parts hu
   obtain ⟨xs, m, rfl, hd, hlen, hxl, hel⟩ := DataW.trod_struct hu ht
   simp only [Prod.mk.injEq, DataW.agg.injEq] at hd
   obtain ⟨hp, _⟩ := hd
   simp only [Option.map_eq_some_iff] at hl
   obtain ⟨ls, hm, rfl⟩ := hl
   rw [List.mem_flatten] at hx
   obtain ⟨l, hl1, hl2⟩ := hx
   obtain ⟨i, hi⟩ := List.getElem?_of_mem hl1
   have hlz := mapM_some_length hm
   have hib : i < (fs.toList.zip parts).length := by rw [← hlz]; exact (List.getElem?_eq_some_iff.1 hi).1
   have hz := List.getElem?_eq_getElem hib
   have hg := mapM_some_get hm i _ hz
   rw [hi] at hg
   rw [List.getElem_zip] at hg
   have hib1 : i < fs.toList.length := by rw [List.length_zip] at hib; omega
   have hib2 : i < parts.length := by rw [List.length_zip] at hib; omega
   have he := hel i fs.toList[i] (by simp at hib1; simp [hib1])
   have hxs : i < xs.length := by rw [hxl]; simpa using hib1
   have hpi : parts[i] = xs[i].1 := by subst hp; simp
   rw [List.getElem?_eq_getElem hxs] at he
   rw [hpi] at hg
   obtain ⟨h1, h2⟩ := ih m _ _ _ _ _ _ (by rw [he]) hg x hl2
   refine ⟨by omega, ?_⟩
   have := cut_get h2
   rw [← this]; congr 1; (try simp only at h1 ⊢); omega
  ·rename_i m e parts hu
   obtain ⟨xs, q, rfl, hd, hlen, hxl, hel⟩ := DataW.trod_array hu ht
   simp only [Prod.mk.injEq, DataW.agg.injEq] at hd
   obtain ⟨hp, _⟩ := hd
   simp only [Option.map_eq_some_iff] at hl
   obtain ⟨ls, hm, rfl⟩ := hl
   rw [List.mem_flatten] at hx
   obtain ⟨l, hl1, hl2⟩ := hx
   obtain ⟨i, hi⟩ := List.getElem?_of_mem hl1
   have hlz := mapM_some_length hm
   have hib : i < ((List.range m).zip parts).length := by rw [← hlz]; exact (List.getElem?_eq_some_iff.1 hi).1
   have hz := List.getElem?_eq_getElem hib
   have hg := mapM_some_get hm i _ hz
   rw [hi] at hg
   rw [List.getElem_zip] at hg
   have hib1 : i < m := by rw [List.length_zip, List.length_range] at hib; omega
   have hib2 : i < parts.length := by rw [List.length_zip] at hib; omega
   have he := hel i hib1
   have hxs : i < xs.length := by rw [hxl]; exact hib1
   have hpi : parts[i] = xs[i].1 := by subst hp; simp
   rw [List.getElem?_eq_getElem hxs] at he
   rw [hpi] at hg
   simp only [List.getElem_range] at hg
   obtain ⟨h1, h2⟩ := ih q _ _ _ _ _ _ (by rw [he]) hg x hl2
   refine ⟨by omega, ?_⟩
   have := cut_get h2
   rw [← this]; congr 1; (try simp only at h1 ⊢); omega
  ·cases hl
theorem laidVars_leaves {P : Program} {w : World} (nm : String) (d : DataW Unit) (g : Nat) (t : TypeId) (n : Nat) (L : List (Nat × Value))
 (hg : P.globalNamed nm = some g) (ht : (P.globals[g]?).map (·.type) = some t) (hl : leaves P n t 0 d = some L) :
 ∀ (l : List (String × DataW Unit)) (ps : List MemPlace), (nm, d) ∈ l → DataW.LaidVars P w l ps → ∀ x ∈ L, w.cell? ⟨g, x.1, none⟩ = some x.2 := by
 intro l
 induction l with
 | nil => intro ps h; cases h
 | cons y r ih =>
  intro ps hm hv
  obtain ⟨g0, t0, cs, fuel, p, q, hg0, ht0, hvar, hd, hr, _⟩ := hv
  rcases List.mem_cons.1 hm with rfl | hm'
  ·obtain rfl := Option.some.inj (hg.symm.trans hg0)
   obtain rfl := Option.some.inj (ht.symm.trans ht0)
   intro x hx
   obtain ⟨_, h2⟩ := leaves_read n fuel t 0 cs.toList d p L hd hl x hx
   rw [World.var?_cell hg hvar]
   simpa using h2
  ·exact ih q hm' hr
theorem laidVars_tab {P : Program} {w : World} (nm : String) (k : IntKind) (zs : List Int) (g : Nat) (t e : TypeId) (n : Nat)
 (hg : P.globalNamed nm = some g) (hty : (P.globals[g]?).map (·.type) = some t) (ht : P.underlying t = some (.array n e)) (he : P.underlying e = some (.int k)) (hce : P.cellsOf e = 1) (hct : P.cellsOf t = n) :
 ∀ (l : List (String × DataW Unit)) (ps : List MemPlace), (nm, Lib.tabData k zs) ∈ l → DataW.LaidVars P w l ps → Lib.TabIs P w nm k zs := by
 intro l
 induction l with
 | nil => intro ps h; cases h
 | cons y r ih =>
  intro ps hm hv
  obtain ⟨g0, t0, cs, fuel, p, q, hg0, ht0, hvar, hd, hr, _⟩ := hv
  rcases List.mem_cons.1 hm with rfl | hm'
  ·obtain rfl := Option.some.inj (hg.symm.trans hg0)
   obtain rfl := Option.some.inj (hty.symm.trans ht0)
   unfold Lib.TabIs
   rw [hvar, ← Lib.cells_of_tab ht he hce hct hd]
  ·exact ih q hm' hr
end
section
def isL (c : UInt8) : Bool := (decide (97 ≤ c.toNat) && decide (c.toNat ≤ 122)) || decide (c.toNat = 95)
def isD (c : UInt8) : Bool := decide (48 ≤ c.toNat) && decide (c.toNat ≤ 57)
def isLD (c : UInt8) : Bool := isL c || isD c
def isB (c : UInt8) : Bool := decide (c.toNat = 32) || decide (c.toNat = 10)
def wordsL : List (List UInt8) := [[108, 101, 116], [115, 101, 99, 114, 101, 116], [98, 117, 102], [105, 102], [101, 108, 115, 101], [119, 104, 105, 108, 101], [102, 111, 114], [118, 105, 101, 119], [101, 100, 105, 116], [109, 111, 118, 101], [111, 112, 101, 110], [99, 97, 108, 108], [115, 101, 97, 108], [102, 110], [114, 101, 116, 117, 114, 110], [110, 117, 109]]
def signsL : List (List UInt8) := [[40], [41], [123], [125], [91], [93], [44], [59], [61], [35], [46, 46], [43], [45], [42], [42, 94], [47], [37], [38], [124], [94], [60, 60], [62, 62], [62, 62, 62], [60], [60, 36]]
def lsF : List (List UInt8) → List UInt8 → List UInt8 → List UInt8
 | [], b, _ => b
 | x :: xs, b, l => lsF xs (if b.length < x.length ∧ x.isPrefixOf l = true then x else b) l
def ls (l : List UInt8) : List UInt8 := lsF signsL [] l
structure Tk where
 k : Nat
 t : List UInt8
 n : Nat
inductive Rd
 | er (e : Nat)
 | ok (t : Tk) (m : List UInt8)
def isWd (l : List UInt8) : Bool := wordsL.contains l
def nameP (p : List UInt8) : Rd := if 16 < p.length then .er 5 else .ok ⟨if isWd p then 2 else 1, p, 0⟩ p
def numP (p : List UInt8) : Rd := match Lib.parseUintB 64 p with
 | .ok u => if Lib.decDigits u = p then .ok ⟨3, [], u⟩ p else .er 7
 | _ => .er 7
def signP (p : List UInt8) : Rd := if p = [] then .er 7 else .ok ⟨4, p, 0⟩ p
def tok : List UInt8 → Rd
 | [] => .er 7
 | c :: r => if isL c then nameP ((c :: r).takeWhile isLD) else if isD c then numP ((c :: r).takeWhile isD) else signP (ls (c :: r))
inductive Lx
 | er (e a : Nat)
 | ok (l : List (Tk × Nat))
def Lx.pre (x : Tk × Nat) : Lx → Lx
 | .er e a => .er e a
 | .ok l => .ok (x :: l)
def Lx.app (l : List (Tk × Nat)) (x : Lx) : Lx := l.foldr Lx.pre x
def bl (l : List UInt8) : Nat := (l.takeWhile isB).length
def lexN : Nat → List UInt8 → Nat → Lx
 | 0, _, a => .er 0 a
 | f + 1, l, a =>
  if l.drop (bl l) = [] then .ok [(⟨5, [], 0⟩, a + bl l)]
  else match tok (l.drop (bl l)) with
   | .er e => .er e (a + bl l)
   | .ok t m => (lexN f ((l.drop (bl l)).drop m.length) (a + bl l + m.length)).pre (t, a + bl l)
def lexT (l : List UInt8) : Lx := if 16384 < l.length then .er 5 0 else lexN (l.length + 1) l 0
def Tk.piece (t : Tk) : List UInt8 := if t.k = 3 then Lib.decDigits t.n else t.t
theorem takeWhile_pre (p : UInt8 → Bool) (l : List UInt8) : ∃ r, l = l.takeWhile p ++ r ∧ ∀ c r', r = c :: r' → p c = false := by
 refine ⟨l.dropWhile p, (List.takeWhile_append_dropWhile).symm, fun c r' h => ?_⟩
 have := List.head?_dropWhile_not p l
 rw [h] at this
 simpa using this
theorem takeWhile_ext (p : UInt8 → Bool) (m r : List UInt8) (hm : ∀ c ∈ m, p c = true) (hr : ∀ c r', r = c :: r' → p c = false) : (m ++ r).takeWhile p = m := by
 rw [List.takeWhile_append_of_pos hm]
 cases r with
 | nil => simp
 | cons c r' => simp [hr c r' rfl]
theorem takeWhile_mem (p : UInt8 → Bool) (l : List UInt8) : ∀ c ∈ l.takeWhile p, p c = true := by
 induction l with
 | nil => intro c h; simp at h
 | cons d l ih =>
  intro c h
  by_cases hd : p d = true
  ·rw [List.takeWhile_cons, if_pos hd, List.mem_cons] at h
   rcases h with rfl | h
   ·exact hd
   ·exact ih c h
  ·rw [List.takeWhile_cons, if_neg hd] at h; simp at h
def SignAt (m l : List UInt8) : Prop := (m = [] ∨ m ∈ signsL) ∧ m <+: l ∧ ∀ x ∈ signsL, x <+: l → x.length ≤ m.length
theorem lsF_at (l : List UInt8) : ∀ (xs : List (List UInt8)) (b : List UInt8), (∀ x ∈ xs, x ∈ signsL) → (b = [] ∨ b ∈ signsL) → b <+: l →
 (lsF xs b l = [] ∨ lsF xs b l ∈ signsL) ∧ lsF xs b l <+: l ∧ b.length ≤ (lsF xs b l).length ∧ ∀ x ∈ xs, x <+: l → x.length ≤ (lsF xs b l).length := by
 intro xs
 induction xs with
 | nil => intro b _ hb hp; exact ⟨hb, hp, Nat.le_refl _, fun x hx => by simp at hx⟩
 | cons x xs ih =>
  intro b hs hb hp
  rw [lsF]
  by_cases hc : b.length < x.length ∧ x.isPrefixOf l = true
  ·rw [if_pos hc]
   have hxp : x <+: l := List.isPrefixOf_iff_prefix.1 hc.2
   obtain ⟨a1, a2, a3, a4⟩ := ih x (fun y hy => hs y (by simp [hy])) (Or.inr (hs x (by simp))) hxp
   refine ⟨a1, a2, by omega, fun y hy hyp => ?_⟩
   rcases List.mem_cons.1 hy with rfl | hy
   ·exact a3
   ·exact a4 y hy hyp
  ·rw [if_neg hc]
   obtain ⟨a1, a2, a3, a4⟩ := ih b (fun y hy => hs y (by simp [hy])) hb hp
   refine ⟨a1, a2, a3, fun y hy hyp => ?_⟩
   rcases List.mem_cons.1 hy with rfl | hy
   ·have : ¬ b.length < y.length := fun h => hc ⟨h, List.isPrefixOf_iff_prefix.2 hyp⟩
    omega
   ·exact a4 y hy hyp
theorem ls_at (l : List UInt8) : SignAt (ls l) l := by
 obtain ⟨a1, a2, _, a4⟩ := lsF_at l signsL [] (fun _ h => h) (Or.inl rfl) (List.nil_prefix)
 exact ⟨a1, a2, a4⟩
theorem prefix_same {a b l : List UInt8} (ha : a <+: l) (hb : b <+: l) (h : a.length = b.length) : a = b := by
 rw [List.prefix_iff_eq_take] at ha hb
 rw [ha, hb, h]
theorem ls_of {m l : List UInt8} (h : SignAt m l) : ls l = m := by
 have h2 := ls_at l
 refine prefix_same h2.2.1 h.2.1 ?_
 have e1 : (ls l).length ≤ m.length := by
  rcases h2.1 with h0 | h0
  ·rw [h0]; simp
  ·exact h.2.2 _ h0 h2.2.1
 have e2 : m.length ≤ (ls l).length := by
  rcases h.1 with h0 | h0
  ·rw [h0]; simp
  ·exact h2.2.2 _ h0 h.2.1
 omega
def closB : Bool := signsL.all fun m => signsL.all fun x => !(m.isPrefixOf x && decide (m.length < x.length)) || signsL.contains (x.take (m.length + 1))
theorem clos_all : closB = true := by decide +kernel
theorem clos {m x : List UInt8} (hm : m ∈ signsL) (hx : x ∈ signsL) (hp : m <+: x) (hl : m.length < x.length) : x.take (m.length + 1) ∈ signsL := by
 have h := clos_all
 unfold closB at h
 have h1 := (List.all_eq_true.1 h) m hm
 have h2 := (List.all_eq_true.1 h1) x hx
 have hp' : m.isPrefixOf x = true := List.isPrefixOf_iff_prefix.2 hp
 simpa [hp', hl] using h2
def blankB : Bool := signsL.all fun m => !signsL.contains (m ++ [32]) && !signsL.contains (m ++ [10])
theorem blank_all : blankB = true := by decide +kernel
theorem isB_cases {c : UInt8} (h : isB c = true) : c = 32 ∨ c = 10 := by
 unfold isB at h
 simp only [Bool.or_eq_true, decide_eq_true_eq] at h
 rcases h with h | h
 ·exact Or.inl (UInt8.toNat_inj.1 h)
 ·exact Or.inr (UInt8.toNat_inj.1 h)
theorem sign_blank {m : List UInt8} (hm : m ∈ signsL) {c : UInt8} (hc : isB c = true) : m ++ [c] ∉ signsL := by
 have h := (List.all_eq_true.1 blank_all) m hm
 simp only [Bool.and_eq_true, Bool.not_eq_true', List.contains_eq_mem, decide_eq_false_iff_not] at h
 rcases isB_cases hc with rfl | rfl
 ·exact h.1
 ·exact h.2
def stop (t : Tk) (c : UInt8) : Prop := if t.k ≤ 2 then isLD c = false else if t.k = 3 then isD c = false else t.t ++ [c] ∉ signsL
def TkOk (t : Tk) (m : List UInt8) : Prop :=
 (t.k = 1 ∨ t.k = 2) ∧ t.t = m ∧ t.n = 0 ∧ nameP m = .ok t m ∧ (∀ c ∈ m, isLD c = true) ∧ (∃ c r, m = c :: r ∧ isL c = true) ∨
 t.k = 3 ∧ t.t = [] ∧ numP m = .ok t m ∧ Lib.decDigits t.n = m ∧ t.n < 18446744073709551616 ∧ (∀ c ∈ m, isD c = true) ∧ m ≠ [] ∨
 t.k = 4 ∧ t.t = m ∧ t.n = 0 ∧ m ∈ signsL
theorem isL_LD {c : UInt8} (h : isL c = true) : isLD c = true := by unfold isLD; rw [h]; rfl
theorem isL_D {c : UInt8} (h : isL c = true) : isD c = false := by
 unfold isL at h; unfold isD
 simp only [Bool.or_eq_true, Bool.and_eq_true, decide_eq_true_eq] at h
 simp only [Bool.and_eq_false_iff, decide_eq_false_iff_not]
 omega
theorem isB_LD {c : UInt8} (h : isB c = true) : isLD c = false := by
 rcases isB_cases h with rfl | rfl <;> decide
theorem isB_D {c : UInt8} (h : isB c = true) : isD c = false := by
 rcases isB_cases h with rfl | rfl <;> decide
theorem isLD_B {c : UInt8} (h : isLD c = true) : isB c = false := by
 cases hb : isB c
 ·rfl
 ·rw [isB_LD hb] at h; simp at h
theorem isD_LD {c : UInt8} (h : isD c = true) : isLD c = true := by unfold isLD; rw [h]; simp
def firstB : Bool := signsL.all fun m => match m with | [] => false | c :: _ => !isL c && !isD c && !isB c
theorem first_all : firstB = true := by decide +kernel
theorem sign_first {c : UInt8} {r : List UInt8} (h : c :: r ∈ signsL) : isL c = false ∧ isD c = false ∧ isB c = false := by
 have h2 := (List.all_eq_true.1 first_all) _ h
 simp only [Bool.and_eq_true, Bool.not_eq_true'] at h2
 exact ⟨h2.1.1, h2.1.2, h2.2⟩
theorem sign_ne {m : List UInt8} (h : m ∈ signsL) : m ≠ [] := by
 rintro rfl
 have h2 := (List.all_eq_true.1 first_all) _ h
 simp at h2
theorem numP_ok {p : List UInt8} {t : Tk} {m : List UInt8} (h : numP p = .ok t m) : m = p ∧ t.k = 3 ∧ t.t = [] ∧ Lib.decDigits t.n = p ∧ t.n < 18446744073709551616 := by
 unfold numP at h
 split at h
 ·rename_i u hu
  split at h
  ·rename_i hd
   cases h
   exact ⟨rfl, rfl, rfl, hd, by have := Lib.parseUintB_le hu; simp only; omega⟩
  ·cases h
 ·cases h
theorem nameP_ok {p : List UInt8} {t : Tk} {m : List UInt8} (h : nameP p = .ok t m) : m = p ∧ (t.k = 1 ∨ t.k = 2) ∧ t.t = p ∧ t.n = 0 := by
 unfold nameP at h
 split at h
 ·cases h
 ·cases h
  refine ⟨rfl, ?_, rfl, rfl⟩
  simp only
  split
  ·exact Or.inr rfl
  ·exact Or.inl rfl
theorem signP_ok {p : List UInt8} {t : Tk} {m : List UInt8} (h : signP p = .ok t m) : m = p ∧ p ≠ [] ∧ t.k = 4 ∧ t.t = p ∧ t.n = 0 := by
 unfold signP at h
 split at h
 ·cases h
 ·rename_i hne
  cases h
  exact ⟨rfl, hne, rfl, rfl, rfl⟩
theorem tok_ok {l : List UInt8} {t : Tk} {m : List UInt8} (h : tok l = .ok t m) : TkOk t m ∧ ∃ r, l = m ++ r ∧ ∀ c r', r = c :: r' → stop t c := by
 cases l with
 | nil => cases h
 | cons c r =>
  rw [tok] at h
  by_cases hL : isL c = true
  ·rw [if_pos hL] at h
   obtain ⟨rfl, hk, ht, hn⟩ := nameP_ok h
   obtain ⟨q, hq, hs⟩ := takeWhile_pre isLD (c :: r)
   refine ⟨Or.inl ⟨hk, ht, hn, h, takeWhile_mem _ _, ⟨c, r.takeWhile isLD, by rw [List.takeWhile_cons, isL_LD hL]; rfl, hL⟩⟩, q, hq, fun c' r' e => ?_⟩
   unfold stop
   rw [if_pos (by omega)]
   exact hs c' r' e
  ·rw [if_neg hL] at h
   by_cases hD : isD c = true
   ·rw [if_pos hD] at h
    obtain ⟨rfl, hk, ht, hn, hlt⟩ := numP_ok h
    obtain ⟨q, hq, hs⟩ := takeWhile_pre isD (c :: r)
    refine ⟨Or.inr (Or.inl ⟨hk, ht, h, hn, hlt, takeWhile_mem _ _, by rw [List.takeWhile_cons, hD]; simp⟩), q, hq, fun c' r' e => ?_⟩
    unfold stop
    rw [if_neg (by omega), if_pos hk]
    exact hs c' r' e
   ·rw [if_neg hD] at h
    have hA := ls_at (c :: r)
    generalize ls (c :: r) = p at *
    obtain ⟨rfl, hne, hk, ht, hn⟩ := signP_ok h
    have hm : m ∈ signsL := hA.1.resolve_left hne
    obtain ⟨q, hq⟩ := hA.2.1
    refine ⟨Or.inr (Or.inr ⟨hk, ht, hn, hm⟩), q, hq.symm, fun c' r' e => ?_⟩
    unfold stop
    rw [if_neg (by omega), if_neg (by omega), ht]
    intro hin
    have := hA.2.2 _ hin ⟨r', by rw [← hq, e]; simp⟩
    simp at this
    omega
theorem tok_next {t : Tk} {m : List UInt8} (h : TkOk t m) (r : List UInt8) (hr : ∀ c r', r = c :: r' → stop t c) : tok (m ++ r) = .ok t m := by
 rcases h with ⟨hk, ht, hn, hN, hall, c, q, rfl, hL⟩ | ⟨hk, ht, hN, hn, _, hall, hne⟩ | ⟨hk, ht, hn, hm⟩
 ·have e : ((c :: q) ++ r).takeWhile isLD = c :: q := takeWhile_ext _ _ _ hall (fun c' r' e => by
   have := hr c' r' e
   unfold stop at this
   rwa [if_pos (by omega)] at this)
  rw [List.cons_append, tok, if_pos hL, ← List.cons_append, e]
  exact hN
 ·obtain ⟨c, q, rfl⟩ := List.exists_cons_of_ne_nil hne
  have hD : isD c = true := hall c (by simp)
  have hL : ¬ isL c = true := fun hL => by rw [isL_D hL] at hD; simp at hD
  have e : ((c :: q) ++ r).takeWhile isD = c :: q := takeWhile_ext _ _ _ hall (fun c' r' e => by
   have := hr c' r' e
   unfold stop at this
   rwa [if_neg (by omega), if_pos hk] at this)
  rw [List.cons_append, tok, if_neg hL, if_pos hD, ← List.cons_append, e]
  exact hN
 ·obtain ⟨c, q, rfl⟩ := List.exists_cons_of_ne_nil (sign_ne hm)
  obtain ⟨f1, f2, f3⟩ := sign_first hm
  have e : ls ((c :: q) ++ r) = c :: q := ls_of ⟨Or.inr hm, List.prefix_append _ _, fun x hx hxp => by
   rcases Nat.lt_or_ge (c :: q).length x.length with hlt | hge
   ·exfalso
    have hp : (c :: q) <+: x := List.prefix_of_prefix_length_le (List.prefix_append _ _) hxp (by omega)
    have hin := clos hm hx hp hlt
    cases r with
    | nil => have := hxp.length_le; simp at this; simp at hlt; omega
    | cons c' r' =>
     have hst := hr c' r' rfl
     unfold stop at hst
     rw [if_neg (by omega), if_neg (by omega), ht] at hst
     apply hst
     have e2 : x.take ((c :: q).length + 1) = (c :: q) ++ [c'] := by
      rw [List.prefix_iff_eq_take] at hxp
      rw [hxp, List.take_take, Nat.min_eq_left (by omega), List.take_append, List.take_of_length_le (by omega)]
      simp
     rw [← e2]
     exact hin
   ·exact hge⟩
  rw [List.cons_append, tok, if_neg (by rw [f1]; simp), if_neg (by rw [f2]; simp), ← List.cons_append, e]
  unfold signP
  rw [if_neg (by simp)]
  obtain ⟨k, t', n⟩ := t
  simp only at hk ht hn
  subst hk ht hn
  rfl
theorem TkOk.ne {t : Tk} {m : List UInt8} (h : TkOk t m) : m ≠ [] := by
 rcases h with ⟨_, _, _, _, _, c, q, rfl, _⟩ | ⟨_, _, _, _, _, _, hne⟩ | ⟨_, _, _, hm⟩
 ·simp
 ·exact hne
 ·exact sign_ne hm
theorem TkOk.piece {t : Tk} {m : List UInt8} (h : TkOk t m) : t.piece = m := by
 unfold Tk.piece
 rcases h with ⟨hk, ht, _⟩ | ⟨hk, _, _, hn, _⟩ | ⟨hk, ht, _⟩
 ·rw [if_neg (by omega), ht]
 ·rw [if_pos hk, hn]
 ·rw [if_neg (by omega), ht]
theorem TkOk.k {t : Tk} {m : List UInt8} (h : TkOk t m) : 1 ≤ t.k ∧ t.k ≤ 4 := by
 rcases h with ⟨hk, _⟩ | ⟨hk, _⟩ | ⟨hk, _⟩ <;> omega
theorem TkOk.first {t : Tk} {m : List UInt8} (h : TkOk t m) : ∃ c r, m = c :: r ∧ isB c = false := by
 rcases h with ⟨_, _, _, _, hall, c, q, rfl, _⟩ | ⟨_, _, _, _, _, hall, hne⟩ | ⟨_, _, _, hm⟩
 ·exact ⟨c, q, rfl, isLD_B (hall c (by simp))⟩
 ·obtain ⟨c, q, rfl⟩ := List.exists_cons_of_ne_nil hne
  exact ⟨c, q, rfl, isLD_B (isD_LD (hall c (by simp)))⟩
 ·obtain ⟨c, q, rfl⟩ := List.exists_cons_of_ne_nil (sign_ne hm)
  exact ⟨c, q, rfl, (sign_first hm).2.2⟩
theorem stop_blank {t : Tk} {m : List UInt8} (h : TkOk t m) {c : UInt8} (hc : isB c = true) : stop t c := by
 unfold stop
 rcases h with ⟨hk, _⟩ | ⟨hk, _⟩ | ⟨hk, ht, _, hm⟩
 ·rw [if_pos (by omega)]; exact isB_LD hc
 ·rw [if_neg (by omega), if_pos hk]; exact isB_D hc
 ·rw [if_neg (by omega), if_neg (by omega), ht]; exact sign_blank hm hc
theorem bl_app (b r : List UInt8) (hb : ∀ c ∈ b, isB c = true) (hr : ∀ c r', r = c :: r' → isB c = false) : bl (b ++ r) = b.length ∧ (b ++ r).drop (bl (b ++ r)) = r := by
 have e : (b ++ r).takeWhile isB = b := takeWhile_ext _ _ _ hb hr
 unfold bl
 rw [e]
 exact ⟨rfl, by simp⟩
theorem bl_split (l : List UInt8) : ∃ b r, l = b ++ r ∧ (∀ c ∈ b, isB c = true) ∧ b.length = bl l ∧ l.drop (bl l) = r ∧ ∀ c r', r = c :: r' → isB c = false := by
 obtain ⟨r, h1, h2⟩ := takeWhile_pre isB l
 refine ⟨_, r, h1, takeWhile_mem _ _, rfl, ?_, h2⟩
 have := (bl_app (l.takeWhile isB) r (takeWhile_mem _ _) h2).2
 rwa [← h1] at this
theorem lex_end (f : Nat) (b : List UInt8) (hb : ∀ c ∈ b, isB c = true) (a : Nat) : lexN (f + 1) b a = .ok [(⟨5, [], 0⟩, a + b.length)] := by
 have h := bl_app b [] hb (by simp)
 rw [List.append_nil] at h
 rw [lexN, if_pos h.2, h.1]
theorem lex_tok (f : Nat) (b : List UInt8) (hb : ∀ c ∈ b, isB c = true) {t : Tk} {m : List UInt8} (h : TkOk t m) (r : List UInt8) (hr : ∀ c r', r = c :: r' → stop t c) (a : Nat) :
 lexN (f + 1) (b ++ (m ++ r)) a = (lexN f r (a + b.length + m.length)).pre (t, a + b.length) := by
 obtain ⟨c, q, hm, hc⟩ := h.first
 have hb2 := bl_app b (m ++ r) hb (fun c' r' e => by rw [hm, List.cons_append] at e; cases e; exact hc)
 rw [lexN, if_neg (by rw [hb2.2, hm]; simp), hb2.2, hb2.1, tok_next h r hr]
 simp
theorem lex_inv {f : Nat} {l : List UInt8} {a : Nat} {T : List (Tk × Nat)} (h : lexN f l a = .ok T) :
 ∃ f', f = f' + 1 ∧ ((∀ c ∈ l, isB c = true) ∧ T = [(⟨5, [], 0⟩, a + l.length)] ∨
  ∃ b t m r T', l = b ++ (m ++ r) ∧ (∀ c ∈ b, isB c = true) ∧ TkOk t m ∧ (∀ c r', r = c :: r' → stop t c) ∧ lexN f' r (a + b.length + m.length) = .ok T' ∧ T = (t, a + b.length) :: T') := by
 cases f with
 | zero => cases h
 | succ f =>
  refine ⟨f, rfl, ?_⟩
  obtain ⟨b, r, hl, hb, hbl, hd, hr⟩ := bl_split l
  rw [lexN, hd, ← hbl] at h
  by_cases h0 : r = []
  ·rw [if_pos h0] at h
   cases h
   subst h0
   rw [List.append_nil] at hl
   exact Or.inl ⟨by rw [hl]; exact hb, by rw [hl]⟩
  ·rw [if_neg h0] at h
   split at h
   ·cases h
   ·rename_i t m htok
    obtain ⟨hok, q, hq, hs⟩ := tok_ok htok
    rw [hq, List.drop_left] at h
    cases hx : lexN f q (a + b.length + m.length) with
    | er e a' => rw [hx] at h; cases h
    | ok T' =>
     rw [hx] at h
     cases h
     exact Or.inr ⟨b, t, m, q, T', by rw [hl, hq], hb, hok, hs, hx, rfl⟩
theorem lex_ne {f : Nat} {l : List UInt8} {a : Nat} {T : List (Tk × Nat)} (h : lexN f l a = .ok T) : T ≠ [] := by
 obtain ⟨f', _, h | h⟩ := lex_inv h
 ·rw [h.2]; simp
 ·obtain ⟨b, t, m, r, T', _, _, _, _, _, e⟩ := h; rw [e]; simp
def pcs (l : List Tk) : List (List UInt8) := l.flatMap fun t => if 1 ≤ t.k ∧ t.k ≤ 4 then [t.piece] else []
def joinT (l : List Tk) : List UInt8 := Lib.join (pcs l) [32]
def bare (T : List (Tk × Nat)) : List Tk := T.map (·.1)
theorem pcs_tok {t : Tk} {m : List UInt8} (h : TkOk t m) (l : List Tk) : pcs (t :: l) = m :: pcs l := by
 unfold pcs
 rw [List.flatMap_cons, if_pos h.k, h.piece]
 rfl
theorem join_two (x y : List UInt8) (r : List (List UInt8)) : Lib.join (x :: y :: r) [32] = x ++ 32 :: Lib.join (y :: r) [32] := by
 rw [Lib.join_cons, Lib.join_cons, Lib.joinTail, Lib.joinTail, List.map_cons, List.flatten_cons]
 simp
def nmdB (l : List UInt8) : Bool := match lexT l with
 | .ok ((t, _) :: _) => decide (t.k = 1) && decide (t.t = l)
 | _ => false
theorem pcs_app (a b : List Tk) : pcs (a ++ b) = pcs a ++ pcs b := by simp [pcs]
def valA (acc : Nat) : List UInt8 → Nat
 | [] => acc
 | c :: r => valA (10 * acc + (c.toNat - 48)) r
def numR (acc : Nat) : List UInt8 → Option Nat
 | [] => some acc
 | c :: r => if (18446744073709551615 - (c.toNat - 48)) / 10 < acc then none else numR (10 * acc + (c.toNat - 48)) r
theorem isD_iff {c : UInt8} : isD c = true ↔ 48 ≤ c.toNat ∧ c.toNat ≤ 57 := by unfold isD; simp
theorem parse_numR : ∀ (l : List UInt8) (acc : Nat), (∀ c ∈ l, isD c = true) → Lib.parseUintM (2 ^ 64 - 1) acc l = match numR acc l with | some u => .ok u | none => .range := by
 intro l
 induction l with
 | nil => intro acc _; rfl
 | cons c r ih =>
  intro acc h
  have hc := isD_iff.1 (h c (by simp))
  rw [Lib.parseUintM, if_pos hc, numR]
  by_cases h1 : (18446744073709551615 - (c.toNat - 48)) / 10 < acc
  ·rw [if_pos h1]
   by_cases h2 : 1844674407370955162 ≤ acc
   ·rw [if_pos h2]
   ·rw [if_neg h2, if_pos (by omega)]
  ·rw [if_neg h1, if_neg (by omega), if_neg (by omega), Nat.mul_comm acc 10]
   exact ih _ (fun x hx => h x (by simp [hx]))
theorem numR_val : ∀ (l : List UInt8) (acc u : Nat), numR acc l = some u → u = valA acc l := by
 intro l
 induction l with
 | nil => intro acc u h; exact (Option.some.inj h).symm
 | cons c r ih =>
  intro acc u h
  rw [numR] at h
  split at h
  ·cases h
  ·exact ih _ _ h
theorem valA_app (a b : List UInt8) : ∀ acc, valA acc (a ++ b) = valA (valA acc a) b := by
 induction a with
 | nil => intro acc; rfl
 | cons c a ih => intro acc; exact ih _
theorem valA_ge : ∀ (l : List UInt8) (acc : Nat), acc ≤ valA acc l := by
 intro l
 induction l with
 | nil => intro acc; exact Nat.le_refl _
 | cons c r ih => intro acc; have h2 := ih (10 * acc + (c.toNat - 48)); show acc ≤ valA (10 * acc + (c.toNat - 48)) r; omega
theorem valA_pos {c : UInt8} {r : List UInt8} (h : 49 ≤ c.toNat) : 1 ≤ valA 0 (c :: r) := by
 have h2 := valA_ge r (10 * 0 + (c.toNat - 48))
 show 1 ≤ valA (10 * 0 + (c.toNat - 48)) r
 omega
theorem ofNat_dig {c : UInt8} (h : 48 ≤ c.toNat) : UInt8.ofNat (48 + (c.toNat - 48)) = c := by
 rw [show 48 + (c.toNat - 48) = c.toNat by omega]
 exact UInt8.ofNat_toNat
theorem dig_val (n : Nat) : ∀ l : List UInt8, l.length = n → (∀ c ∈ l, isD c = true) → (∃ c r, l = c :: r ∧ (49 ≤ c.toNat ∨ r = [])) → Lib.decDigits (valA 0 l) = l := by
 induction n using Nat.strongRecOn with
 | _ n ih =>
  intro l hl hd ⟨c, r, e, hh⟩
  rcases List.eq_nil_or_concat r with rfl | ⟨r', x, rfl⟩
  ·subst e
   have hc := isD_iff.1 (hd c (by simp))
   show Lib.decDigits (10 * 0 + (c.toNat - 48)) = [c]
   rw [Lib.decDigits, dif_pos (by omega), show 10 * 0 + (c.toNat - 48) = c.toNat - 48 by omega, ofNat_dig hc.1]
  ·have h49 : 49 ≤ c.toNat := by rcases hh with h | h; exact h; simp at h
   have e2 : l = (c :: r') ++ [x] := by rw [e]; simp
   have hx := isD_iff.1 (hd x (by rw [e2]; simp))
   have hp := valA_pos (c := c) (r := r') h49
   have hv : valA 0 l = 10 * valA 0 (c :: r') + (x.toNat - 48) := by rw [e2, valA_app]; rfl
   have hi := ih (c :: r').length (by rw [← hl, e2]; simp) (c :: r') rfl (fun y hy => hd y (by rw [e2]; simp only [List.mem_append]; exact Or.inl hy)) ⟨c, r', rfl, Or.inl h49⟩
   rw [hv, Lib.decDigits, dif_neg (by omega), show (10 * valA 0 (c :: r') + (x.toNat - 48)) / 10 = valA 0 (c :: r') by omega, hi, show (10 * valA 0 (c :: r') + (x.toNat - 48)) % 10 = x.toNat - 48 by omega, ofNat_dig hx.1, e2]
theorem head_ne (u : Nat) : 1 ≤ u → ∃ c r, Lib.decDigits u = c :: r ∧ c ≠ 48 := by
 induction u using Nat.strongRecOn with
 | _ u ih =>
  intro h
  by_cases h10 : u < 10
  ·refine ⟨UInt8.ofNat (48 + u), [], by rw [Lib.decDigits, dif_pos h10], fun e => ?_⟩
   have := congrArg UInt8.toNat e
   simp at this
   omega
  ·obtain ⟨c, r, e, hc⟩ := ih (u / 10) (by omega) (by omega)
   exact ⟨c, r ++ [UInt8.ofNat (48 + u % 10)], by rw [Lib.decDigits, dif_neg h10, e]; rfl, hc⟩
theorem lead_ne (u : Nat) (c : UInt8) (r : List UInt8) : Lib.decDigits u ≠ 48 :: c :: r := by
 intro e
 by_cases h : 1 ≤ u
 ·obtain ⟨c', r', e', hc⟩ := head_ne u h
  rw [e'] at e
  cases e
  exact hc rfl
 ·have : u = 0 := by omega
  subst this
  rw [Lib.decDigits, dif_pos (by omega)] at e
  cases e
theorem numP_digits (p : List UInt8) (hne : p ≠ []) (hd : ∀ c ∈ p, isD c = true) :
 numP p = if 1 < p.length ∧ p.head? = some 48 then .er 7 else match numR 0 p with | some u => .ok ⟨3, [], u⟩ p | none => .er 7 := by
 obtain ⟨c, r, rfl⟩ := List.exists_cons_of_ne_nil hne
 have hp : Lib.parseUintB 64 (c :: r) = match numR 0 (c :: r) with | some u => .ok u | none => .range := by
  unfold Lib.parseUintB
  rw [if_neg (by simp)]
  exact parse_numR _ _ hd
 unfold numP
 rw [hp]
 by_cases h : 1 < (c :: r).length ∧ (c :: r).head? = some 48
 ·rw [if_pos h]
  obtain ⟨h1, h2⟩ := h
  have hc : c = 48 := by simpa using h2
  subst hc
  obtain ⟨d, r, rfl⟩ : ∃ d r', r = d :: r' := by cases r with | nil => simp at h1 | cons d r' => exact ⟨d, r', rfl⟩
  cases hq : numR 0 (48 :: d :: r) with
  | none => rfl
  | some u =>
   simp only
   rw [if_neg (lead_ne u d r)]
 ·rw [if_neg h]
  cases hq : numR 0 (c :: r) with
  | none => rfl
  | some u =>
   simp only
   have hu := numR_val _ _ _ hq
   have hc := isD_iff.1 (hd c (by simp))
   have : Lib.decDigits u = c :: r := by
    rw [hu]
    refine dig_val _ _ rfl hd ⟨c, r, rfl, ?_⟩
    by_cases hr : r = []
    ·exact Or.inr hr
    ·left
     have hc48 : c ≠ 48 := fun e => h ⟨by have := List.length_pos_iff.2 hr; simp; omega, by rw [e]; rfl⟩
     have : c.toNat ≠ 48 := fun e => hc48 (UInt8.toNat_inj.1 e)
     omega
   rw [if_pos this]
def signsR : List (List UInt8) := [[62, 62, 62], [46, 46], [42, 94], [60, 60], [62, 62], [60, 36], [40], [41], [123], [125], [91], [93], [44], [59], [61], [35], [43], [45], [42], [47], [37], [38], [124], [94], [60]]
def sgR (l : List UInt8) : List UInt8 := (signsR.find? fun x => x.isPrefixOf l).getD []
def sortB : Bool := (List.range 25).all fun i => (List.range 25).all fun j => !(decide (i < j)) || decide ((signsR.getD j []).length ≤ (signsR.getD i []).length)
def permB : Bool := signsL.all (fun x => signsR.contains x) && signsR.all (fun x => signsL.contains x)
inductive Xp
 | mk (k n : Nat) (s : List UInt8) (o : Nat) (l : List Xp)
def Xp.k : Xp → Nat | .mk k _ _ _ _ => k
def Xp.n : Xp → Nat | .mk _ n _ _ _ => n
def Xp.s : Xp → List UInt8 | .mk _ _ s _ _ => s
def Xp.o : Xp → Nat | .mk _ _ _ o _ => o
def Xp.l : Xp → List Xp | .mk _ _ _ _ l => l
instance : Inhabited Xp := ⟨.mk 0 0 [] 0 []⟩
def x0 : Xp := .mk 0 0 [] 0 []
def opsL : List (List UInt8) := [[], [43], [45], [60, 60], [60, 36], [60], [94], [62, 62], [62, 62, 62], [124], [38], [42], [42, 94], [47], [37]]
def opS (o : Nat) : List UInt8 := opsL.getD o []
def sg (t : List UInt8) : Tk := ⟨4, t, 0⟩
def nmT (t : List UInt8) : Tk := ⟨1, t, 0⟩
def fitB (k n : Nat) (s : List UInt8) (o m : Nat) : Bool :=
 if k = 1 then decide (s = []) && decide (o = 0) && decide (m = 0)
 else if k = 2 ∨ k = 4 then decide (n = 0) && nmdB s && decide (o = 0) && decide (m = 0)
 else if k = 5 then decide (n = 0) && nmdB s && decide (o = 0) && decide (m = 1)
 else if k = 3 then decide (n = 0) && decide (s = []) && decide (opS o ≠ []) && decide (m = 2)
 else false
def mayB : Nat → Xp → Bool
 | 0, _ => false
 | d + 1, .mk k n s o l => fitB k n s o l.length && l.all (mayB d)
def tellF : Nat → Xp → List Tk
 | 0, _ => []
 | d + 1, .mk k n s o l =>
  if k = 1 then [⟨3, [], n⟩]
  else if k = 2 then [nmT s]
  else if k = 4 then [sg [35], nmT s]
  else if k = 5 then nmT s :: sg [91] :: (tellF d (l.getD 0 x0) ++ [sg [93]])
  else sg [40] :: (tellF d (l.getD 0 x0) ++ sg (opS o) :: (tellF d (l.getD 1 x0) ++ [sg [41]]))
inductive Ro
 | er (e p : Nat)
 | ok (x : Xp) (p : Nat)
def nameT (t : Tk) : Bool := decide (t.k = 1) && decide (t.n = 0) && nmdB t.t
def opOf (t : Tk) : Nat := if t.k = 4 ∧ t.n = 0 ∧ t.t ≠ [] then (opsL.findIdx? (fun x => decide (x = t.t))).getD 0 else 0
instance : DecidableEq Tk := fun a b => match a, b with
 | ⟨k, t, n⟩, ⟨k', t', n'⟩ => if h : k = k' ∧ t = t' ∧ n = n' then isTrue (by obtain ⟨rfl, rfl, rfl⟩ := h; rfl) else isFalse (fun e => h (by cases e; exact ⟨rfl, rfl, rfl⟩))
def rdE : Nat → List Tk → Nat → Ro
 | 0, _, p => .er 70 p
 | d + 1, T, p =>
  match T[p]? with
  | none => .er 7 p
  | some t =>
   if t.k = 3 then (if t.t = [] then .ok (.mk 1 t.n [] 0 []) (p + 1) else .er 7 p)
   else if t = sg [35] then
    (match T[p + 1]? with
    | none => .er 7 (p + 1)
    | some u => if nameT u = true then .ok (.mk 4 0 u.t 0 []) (p + 2) else .er 7 (p + 1))
   else if t = sg [40] then
    (match rdE d T (p + 1) with
    | .er e q => .er e q
    | .ok a q =>
     match T[q]? with
     | none => .er 7 q
     | some u => if opOf u = 0 then .er 7 q else
       match rdE d T (q + 1) with
       | .er e r => .er e r
       | .ok b r => if T[r]? = some (sg [41]) then .ok (.mk 3 0 [] (opOf u) [a, b]) (r + 1) else .er 7 r)
   else if nameT t = true then
    (if T[p + 1]? = some (sg [91]) then
      (match rdE d T (p + 2) with
      | .er e q => .er e q
      | .ok a q => if T[q]? = some (sg [93]) then .ok (.mk 5 0 t.t 0 [a]) (q + 1) else .er 7 q)
    else .ok (.mk 2 0 t.t 0 []) (p + 1))
   else .er 7 p
theorem fit1 {n : Nat} {s : List UInt8} {o m : Nat} (h : fitB 1 n s o m = true) : s = [] ∧ o = 0 ∧ m = 0 := by simpa [fitB, and_assoc] using h
theorem fit2 {n : Nat} {s : List UInt8} {o m : Nat} (h : fitB 2 n s o m = true) : n = 0 ∧ nmdB s = true ∧ o = 0 ∧ m = 0 := by simpa [fitB, and_assoc] using h
theorem fit4 {n : Nat} {s : List UInt8} {o m : Nat} (h : fitB 4 n s o m = true) : n = 0 ∧ nmdB s = true ∧ o = 0 ∧ m = 0 := by simpa [fitB, and_assoc] using h
theorem fit5 {n : Nat} {s : List UInt8} {o m : Nat} (h : fitB 5 n s o m = true) : n = 0 ∧ nmdB s = true ∧ o = 0 ∧ m = 1 := by simpa [fitB, and_assoc] using h
theorem fit3 {n : Nat} {s : List UInt8} {o m : Nat} (h : fitB 3 n s o m = true) : n = 0 ∧ s = [] ∧ opS o ≠ [] ∧ m = 2 := by simpa [fitB, and_assoc] using h
theorem fit_k {k n : Nat} {s : List UInt8} {o m : Nat} (h : fitB k n s o m = true) : k = 1 ∨ k = 2 ∨ k = 3 ∨ k = 4 ∨ k = 5 := by
 unfold fitB at h
 by_cases h1 : k = 1
 ·exact .inl h1
 ·rw [if_neg h1] at h
  by_cases h2 : k = 2 ∨ k = 4
  ·omega
  ·rw [if_neg h2] at h
   by_cases h5 : k = 5
   ·omega
   ·rw [if_neg h5] at h
    by_cases h3 : k = 3
    ·omega
    ·rw [if_neg h3] at h; cases h
end
end Go.Proofs.YtfbjljcmmbdhkaaGreatDoor
