/- What a laid table of plain data (bools, integers, structs, arrays) reads as, cell by cell: for whatever program. -/
import Derived.Test.YtfpoflddnlbpjaaGreatDoorRows
import Derived.ChangeArms
import Derived.DataReads
import Derived.OpenShut
import Derived.LaidMore
import Derived.FnData
import Derived.LaidByTextLater
import Derived.Lib.LaidTab
namespace Go.Proofs.YtfpoflddnlbpjaaGreatDoor
open Go
set_option linter.unusedVariables false

def leaves (P : Program) : Nat → TypeId → Nat → DataW Unit → Option (List (Nat × Value))
  | 0, _, _, _ => none
  | n + 1, t, off, d =>
    match P.underlying t, d with
    | some .bool, .lit (.bool b) => some [(off, .bool b)]
    | some (.int _), .lit (.int k m) => some [(off, .int k m)]
    | some .string, .lit (.string l) => some [(off, .string ⟨l.toArray⟩)]
    | some (.struct fs), .agg parts => ((fs.toList.zip parts).mapM fun x => leaves P n x.1.type (off + x.1.offset) x.2).map List.flatten
    | some (.array m e), .agg parts => (((List.range m).zip parts).mapM fun x => leaves P n e (off + x.1 * P.cellsOf e) x.2).map List.flatten
    | _, _ => none

theorem cut_get {cs : List Value} {o c i : Nat} {v : Value} (h : ((cs.drop o).take c)[i]? = some v) : cs[o + i]? = some v := by
  rw [List.getElem?_take] at h
  split at h
  · rw [List.getElem?_drop] at h; exact h
  · cases h

theorem leaves_read {P : Program} {w : World} {base : Nat} {sp : Nat → Bool} {held : Bool} {enc : TypeId × Value → Unit} : ∀ (n fuel : Nat) (t : TypeId) (off : Nat) (cs : List Value) (d : DataW Unit) (p : List MemPlace) (L : List (Nat × Value)),
    DataW.trod enc P w base sp held fuel t cs = some (d, p) → leaves P n t off d = some L → ∀ x ∈ L, off ≤ x.1 ∧ cs[x.1 - off]? = some x.2 := by
  intro n
  induction n with
  | zero => intro fuel t off cs d p L _ h; simp [leaves] at h
  | succ n ih =>
    intro fuel t off cs d p L ht hl x hx
    unfold leaves at hl
    split at hl
    · rename_i b hu
      obtain ⟨b', rfl, hd⟩ := DataW.trod_bool hu ht
      simp at hd hl
      subst hl
      obtain ⟨hb, _⟩ := hd
      simp at hx; subst hx; simp [hb]
    · rename_i k0 k m hu
      obtain ⟨m', rfl, hd, _⟩ := DataW.trod_int hu ht
      simp at hd hl
      subst hl
      obtain ⟨⟨hk, hm⟩, _⟩ := hd
      simp at hx; subst hx; simp [hk, hm]
    · rename_i l hu
      obtain ⟨s, rfl, hd, _⟩ := DataW.trod_string hu ht
      simp only [Prod.mk.injEq, DataW.lit.injEq, Lit.string.injEq] at hd
      simp only [Option.some.injEq] at hl
      subst hl
      obtain ⟨rfl, _⟩ := hd
      simp only [List.mem_singleton] at hx; subst hx; simp
    · rename_i fs parts hu
      obtain ⟨xs, m, rfl, hd, hlen, hxl, hel⟩ := DataW.trod_struct hu ht
      simp only [Prod.mk.injEq, DataW.agg.injEq] at hd
      obtain ⟨hp, _⟩ := hd
      simp only [Option.map_eq_some_iff] at hl
      obtain ⟨ls, hm, rfl⟩ := hl
      rw [List.mem_flatten] at hx
      obtain ⟨l, hl1, hl2⟩ := hx
      obtain ⟨i, hi⟩ := List.getElem?_of_mem hl1
      have hlz := mapM_some_length hm
      have hib : i < (fs.toList.zip parts).length := by rw [← hlz]; exact (List.getElem?_eq_some_iff.1 hi).1
      have hz := List.getElem?_eq_getElem hib
      have hg := mapM_some_get hm i _ hz
      rw [hi] at hg
      rw [List.getElem_zip] at hg
      have hib1 : i < fs.toList.length := by rw [List.length_zip] at hib; omega
      have hib2 : i < parts.length := by rw [List.length_zip] at hib; omega
      have he := hel i fs.toList[i] (by simp at hib1; simp [hib1])
      have hxs : i < xs.length := by rw [hxl]; simpa using hib1
      have hpi : parts[i] = xs[i].1 := by subst hp; simp
      rw [List.getElem?_eq_getElem hxs] at he
      rw [hpi] at hg
      obtain ⟨h1, h2⟩ := ih m _ _ _ _ _ _ (by rw [he]) hg x hl2
      refine ⟨by omega, ?_⟩
      have := cut_get h2
      rw [← this]; congr 1; (try simp only at h1 ⊢); omega
    · rename_i m e parts hu
      obtain ⟨xs, q, rfl, hd, hlen, hxl, hel⟩ := DataW.trod_array hu ht
      simp only [Prod.mk.injEq, DataW.agg.injEq] at hd
      obtain ⟨hp, _⟩ := hd
      simp only [Option.map_eq_some_iff] at hl
      obtain ⟨ls, hm, rfl⟩ := hl
      rw [List.mem_flatten] at hx
      obtain ⟨l, hl1, hl2⟩ := hx
      obtain ⟨i, hi⟩ := List.getElem?_of_mem hl1
      have hlz := mapM_some_length hm
      have hib : i < ((List.range m).zip parts).length := by rw [← hlz]; exact (List.getElem?_eq_some_iff.1 hi).1
      have hz := List.getElem?_eq_getElem hib
      have hg := mapM_some_get hm i _ hz
      rw [hi] at hg
      rw [List.getElem_zip] at hg
      have hib1 : i < m := by rw [List.length_zip, List.length_range] at hib; omega
      have hib2 : i < parts.length := by rw [List.length_zip] at hib; omega
      have he := hel i hib1
      have hxs : i < xs.length := by rw [hxl]; exact hib1
      have hpi : parts[i] = xs[i].1 := by subst hp; simp
      rw [List.getElem?_eq_getElem hxs] at he
      rw [hpi] at hg
      simp only [List.getElem_range] at hg
      obtain ⟨h1, h2⟩ := ih q _ _ _ _ _ _ (by rw [he]) hg x hl2
      refine ⟨by omega, ?_⟩
      have := cut_get h2
      rw [← this]; congr 1; (try simp only at h1 ⊢); omega
    · cases hl

theorem laidVars_leaves {P : Program} {w : World} (nm : String) (d : DataW Unit) (g : Nat) (t : TypeId) (n : Nat) (L : List (Nat × Value))
    (hg : P.globalNamed nm = some g) (ht : (P.globals[g]?).map (·.type) = some t) (hl : leaves P n t 0 d = some L) :
    ∀ (l : List (String × DataW Unit)) (ps : List MemPlace), (nm, d) ∈ l → DataW.LaidVars P w l ps → ∀ x ∈ L, w.cell? ⟨g, x.1, none⟩ = some x.2 := by
  intro l
  induction l with
  | nil => intro ps h; cases h
  | cons y r ih =>
    intro ps hm hv
    obtain ⟨g0, t0, cs, fuel, p, q, hg0, ht0, hvar, hd, hr, _⟩ := hv
    rcases List.mem_cons.1 hm with rfl | hm'
    · obtain rfl := Option.some.inj (hg.symm.trans hg0)
      obtain rfl := Option.some.inj (ht.symm.trans ht0)
      intro x hx
      obtain ⟨_, h2⟩ := leaves_read n fuel t 0 cs.toList d p L hd hl x hx
      rw [World.var?_cell hg hvar]
      simpa using h2
    · exact ih q hm' hr
theorem laidVars_tab {P : Program} {w : World} (nm : String) (k : IntKind) (zs : List Int) (g : Nat) (t e : TypeId) (n : Nat)
    (hg : P.globalNamed nm = some g) (hty : (P.globals[g]?).map (·.type) = some t) (ht : P.underlying t = some (.array n e)) (he : P.underlying e = some (.int k)) (hce : P.cellsOf e = 1) (hct : P.cellsOf t = n) :
    ∀ (l : List (String × DataW Unit)) (ps : List MemPlace), (nm, Lib.tabData k zs) ∈ l → DataW.LaidVars P w l ps → Lib.TabIs P w nm k zs := by
  intro l
  induction l with
  | nil => intro ps h; cases h
  | cons y r ih =>
    intro ps hm hv
    obtain ⟨g0, t0, cs, fuel, p, q, hg0, ht0, hvar, hd, hr, _⟩ := hv
    rcases List.mem_cons.1 hm with rfl | hm'
    · obtain rfl := Option.some.inj (hg.symm.trans hg0)
      obtain rfl := Option.some.inj (hty.symm.trans ht0)
      unfold Lib.TabIs
      rw [hvar, ← Lib.cells_of_tab ht he hce hct hd]
    · exact ih q hm' hr
end Go.Proofs.YtfpoflddnlbpjaaGreatDoor
