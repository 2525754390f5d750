/- A region that draws its order, with reads that may be taken first as long as a fact on the world holds: for whatever program. -/
import Derived.ProofKit
import Derived.StillTail
import Derived.RegionTactic
namespace Go.Proofs.YtfbjljcmmbdhkaaGreatDoor
set_option linter.unusedVariables false
set_option linter.unusedSimpArgs false
set_option maxRecDepth 100000
set_option maxHeartbeats 200000000
section
open Go Go.ChangeShapes Go.WideShapes Go.ChangeAt Go.RowKit
section
variable {P : Program} {md : Region.Mode} {ops : Array Oper} {Q : Exit → Act → World → Prop} {F : World → Prop} {st : Nat}
/-- Where the fact holds, the operation leaves that value, and the world as it is. -/
def YF (P : Program) (ops : Array Oper) (F : World → Prop) (o : Oper) (v : Value) (a : Act) : Prop :=
 (Region.wanted o (yielded ops a.tmps) = true ∧ ∀ w, F w → (execOp a.eval o).run P w = .ok (.value v) w) ∨ (Region.wanted o (yielded ops a.tmps) = false ∧ v = undef)
theorem YF.same {o : Oper} {v : Value} {a a' : Act} (h : YF P ops F o v a) (he : execOp a'.eval o = execOp a.eval o) (hw : Region.wanted o (yielded ops a'.tmps) = Region.wanted o (yielded ops a.tmps)) : YF P ops F o v a' := by
 unfold YF; rw [he, hw]; exact h
theorem YF.op {i : Nat} {o : Oper} {v : Value} {a : Act} {w : World} {K : Act → World → Prop} (hi : ops[i]? = some o) (h : YF P ops F o v a) (hF : F w) (hk : K (a.put o.dst v) w) : wpOp P ops Q i K a w := by
 unfold wpOp
 simp only [hi]
 rcases h with ⟨hw, hv⟩ | ⟨hw, rfl⟩
 ·rw [if_pos hw]; left; unfold Oper.wp; rw [hv w hF]; exact hk
 ·rw [if_neg (by rw [hw]; exact Bool.false_ne_true)]; exact hk
/-- An operation that is apart from one that reads: it may come behind it, or ahead. -/
theorem YF.past {j : Nat} {oi oj : Oper} {v : Value} (hj : ops[j]? = some oj) (hap : oi.apart ops oj = true) (hsi : ∀ cs b, oi.op ≠ .select cs b) (hsj : ∀ cs b, oj.op ≠ .select cs b)
 (hQ : ∀ c a w, Q (.panic c) (a.put oi.dst v) w → Q (.panic c) a w) {K : Act → World → Prop} {a : Act} {w : World} (hy : YF P ops F oi v a) (h : wpOp P ops Q j K (a.put oi.dst v) w) :
 wpOp P ops Q j (fun a' w' => YF P ops F oi v a' ∧ K (a'.put oi.dst v) w') a w := by
 obtain ⟨h1, h2, h3⟩ := Oper.apart_spec hap
 have kp : ∀ b, YF P ops F oi v b → ∀ u, YF P ops F oi v (b.put oj.dst u) := fun b hb u => hb.same (execOp_put oi hsi b oj.dst u h3) (wanted_put oi b oj.dst u h3)
 have both : ∀ u w', K ((a.put oi.dst v).put oj.dst u) w' → YF P ops F oi v (a.put oj.dst u) ∧ K ((a.put oj.dst u).put oi.dst v) w' := fun u w' hk => ⟨kp a hy u, by rw [← Act.put_comm a v u h2]; exact hk⟩
 unfold wpOp at h ⊢
 simp only [hj] at h ⊢
 rw [wanted_put oj a oi.dst v h1] at h
 by_cases hw : Region.wanted oj (yielded ops a.tmps) = true
 ·rw [if_pos hw] at h ⊢
  rcases h with h | ⟨hk, hl⟩
  ·left
   unfold Oper.wp at h ⊢
   rw [execOp_put oj hsj a oi.dst v h1] at h
   cases hr : (execOp a.eval oj).run P w with
   | ok n w' =>
    rw [hr] at h
    cases n <;> simp only [Oper.upon] at h ⊢
    case value u => exact both _ _ h
    case skip => exact both _ _ h
    case defer d => exact ⟨kp { a with defers := d :: a.defers } (hy.same rfl rfl) _, by rw [← Act.put_comm _ v undef h2, ← Act.put_defers]; exact h⟩
    case enter f args => exact Calls.mono h fun e w'' he => by
                            cases e with
                            | returned u => exact both _ _ he
                            | panicked c => exact hQ _ _ _ he
                            | outgrown => exact he
    case row row args => exact Rows.mono h fun u w'' he => both _ _ he
   | halt x w' =>
    rw [hr] at h
    cases x <;> simp only [Oper.upon] at h ⊢
    case panic u => exact hQ _ _ _ h
  ·right
   exact ⟨by unfold Oper.asks at hk ⊢; rw [execOp_put oj hsj a oi.dst v h1] at hk; exact hk, hl⟩
 ·rw [if_neg hw] at h ⊢
  exact both _ _ h
/-- Every order, the fact kept till operation st comes. -/
def wpAnyF (P : Program) (md : Region.Mode) (ops : Array Oper) (Q : Exit → Act → World → Prop) (F : World → Prop) (st : Nat) : Nat → Array Bool → Act → World → Prop
 | 0, L, a, w => Region.ready md ops L = [] ∧ Q .normal a w
 | f + 1, L, a, w => (Region.ready md ops L = [] → Q .normal a w) ∧ ∀ i ∈ Region.ready md ops L, wpOp P ops Q i (fun a' w' => ((L.setIfInBounds i true).getD st true = false → F w') ∧ wpAnyF P md ops Q F st f (L.setIfInBounds i true) a' w') a w
theorem wpAny_of_F : ∀ (f : Nat) (L : Array Bool) (a : Act) (w : World), wpAnyF P md ops Q F st f L a w → wpAny P md ops Q f L a w
 | 0, _, _, _, h => h
 | f + 1, _, _, _, h => ⟨h.1, fun i hi => wpOp_mono (fun a' w' hk => wpAny_of_F f _ a' w' hk.2) (h.2 i hi)⟩
theorem wpAnyF_first {i : Nat} {oi : Oper} {v : Value} (hi : ops[i]? = some oi) (hsel : ∀ (j : Nat) (o : Oper) cs b, ops[j]? = some o → o.op ≠ .select cs b) (hQ : ∀ c a w, Q (.panic c) (a.put oi.dst v) w → Q (.panic c) a w)
 (hst : Region.waitsFor md ops st i = true) : ∀ (f : Nat) (L : Array Bool) (a : Act) (w : World),
   (∀ j oj, ops[j]? = some oj → j ≠ i → L.getD j true = false → (∀ e ∈ oj.after, Region.binds md e = true → e.on ≠ i) → oi.apart ops oj = true) →
   i ∈ Region.ready md ops L → L.getD st true = false → YF P ops F oi v a → F w → wpAnyF P md ops Q F st f (L.setIfInBounds i true) (a.put oi.dst v) w → wpAnyF P md ops Q F st (f + 1) L a w := by
 obtain ⟨os, hos, es, hes, hbs, hon⟩ := Region.waitsFor_spec hst
 -- who waits for i is not ready as long as i is not listed
 have away : ∀ (L : Array Bool) (j : Nat) (oj : Oper), i ∈ Region.ready md ops L → j ∈ Region.ready md ops L → ops[j]? = some oj → ∀ e ∈ oj.after, Region.binds md e = true → e.on ≠ i := fun L j oj hir hjr ho e he hb heq => by
  obtain ⟨_, o', ho', hall⟩ := mem_ready.1 hjr
  obtain rfl : o' = oj := Option.some.inj (ho'.symm.trans ho)
  have h1 := hall e he hb
  have h0 := (mem_ready.1 hir).1
  rw [heq] at h1
  rcases Nat.lt_or_ge i L.size with h' | h'
  ·simp [h'] at h0 h1; rw [h0] at h1; cases h1
  ·simp [Array.getElem?_eq_none h'] at h1
 intro f
 induction f with
 | zero =>
  intro L a w hfree hr hun hy hF H
  refine ⟨fun h0 => (by rw [h0] at hr; cases hr), fun j hj => ?_⟩
  by_cases hji : j = i
  ·subst hji; exact hy.op hi hF ⟨fun _ => hF, H⟩
  ·have := ready_mono hj hji
   rw [H.1] at this
   cases this
 | succ f ih =>
  intro L a w hfree hr hun hy hF H
  refine ⟨fun h0 => (by rw [h0] at hr; cases hr), fun j hj => ?_⟩
  by_cases hji : j = i
  ·subst hji; exact hy.op hi hF ⟨fun _ => hF, H⟩
  ·obtain ⟨hjun, oj, hoj, _⟩ := mem_ready.1 hj
   have hno := away L j oj hr hj hoj
   have hjs : j ≠ st := fun e => by
    subst e
    obtain rfl : os = oj := Option.some.inj (hos.symm.trans hoj)
    exact hno es hes hbs hon
   have h1 := YF.past hoj (hfree j oj hoj hji hjun hno) (fun cs b => hsel i oi cs b hi) (fun cs b => hsel j oj cs b hoj) hQ hy (H.2 j (ready_mono hj hji))
   have hfree' : ∀ k ok, ops[k]? = some ok → k ≠ i → (L.setIfInBounds j true).getD k true = false → (∀ e ∈ ok.after, Region.binds md e = true → e.on ≠ i) → oi.apart ops ok = true := fun k ok hk hki hu hn => by
    refine hfree k ok hk hki ?_ hn
    by_cases hjk : j = k
    ·subst hjk; exact hjun
    ·rw [getD_set_ne true hjk] at hu; exact hu
   have hunj : (L.setIfInBounds j true).getD st true = false := by rw [getD_set_ne true hjs]; exact hun
   refine wpOp_mono (fun a' w' h3 => ?_) h1
   obtain ⟨hy', hC, hK⟩ := h3
   rw [Array.setIfInBounds_comm _ _ (Ne.symm hji)] at hC hK
   have hF' : F w' := hC (by
    have his : i ≠ st := fun e => by
     subst e
     have := (mem_ready.1 hr).2
     obtain ⟨o', ho', hall⟩ := this
     obtain rfl : o' = os := Option.some.inj (ho'.symm.trans hos)
     have h1 := hall es hes hbs
     rw [hon] at h1
     rcases Nat.lt_or_ge i L.size with h' | h'
     ·simp [h'] at hun h1; rw [hun] at h1; cases h1
     ·simp [Array.getElem?_eq_none h'] at h1
    rw [getD_set_ne true his]; exact hunj)
   exact ⟨fun _ => hF', ih _ a' w' hfree' (ready_mono hr (Ne.symm hji)) hunj hy' hF' hK⟩
/-- A read is taken first. -/
theorem wpAnyF_take {i : Nat} {oi : Oper} {f : Nat} {L : Array Bool} {a : Act} {w : World} (hi : ops[i]? = some oi) (hs : Region.noSelect ops = true) (hf : Region.free md ops L i = true) (hr : (Region.ready md ops L).contains i = true)
 (hst : Region.waitsFor md ops st i = true) (hun : L.getD st true = false) (hQ : ∀ v c a w, Q (.panic c) (a.put oi.dst v) w → Q (.panic c) a w) (hF : F w)
 (h : ∀ K : Act → Prop, (∀ a', wpAnyF P md ops Q F st f (L.setIfInBounds i true) a' w → K a') → ∃ v, YF P ops F oi v a ∧ K (a.put oi.dst v)) : wpAnyF P md ops Q F st (f + 1) L a w := by
 obtain ⟨v, hy, hk⟩ := h _ (fun _ h => h)
 exact wpAnyF_first hi (Region.noSelect_spec hs) (hQ v) hst f L a w (Region.free_spec hi hf) (by simpa using hr) hun hy hF hk
/-- One operation alone may come. -/
theorem wpAnyF_one {k : Nat} {f : Nat} {L : Array Bool} {a : Act} {w : World} (hr : Region.ready md ops L = [k]) (h : wpOp P ops Q k (fun a' w' => ((L.setIfInBounds k true).getD st true = false → F w') ∧ wpAnyF P md ops Q F st f (L.setIfInBounds k true) a' w') a w) : wpAnyF P md ops Q F st (f + 1) L a w :=
 ⟨fun h0 => (by rw [hr] at h0; cases h0), fun i hi => by
  rw [hr] at hi
  have e : i = k := by simpa using hi
  subst e
  exact h⟩
theorem wpAnyF_done {f : Nat} {L : Array Bool} {a : Act} {w : World} (hr : Region.ready md ops L = []) (h : Q .normal a w) : wpAnyF P md ops Q F st f L a w := by
 cases f with
 | zero => exact ⟨hr, h⟩
 | succ f => exact ⟨fun _ => h, fun i hi => by rw [hr] at hi; cases hi⟩
theorem region_F {id : Nat} {l : List Oper} {a : Act} {w : World} (F : World → Prop) (st : Nat) (hm : P.follows .mixedOrders = true) (h : wpAnyF P .any l.toArray Q F st l.toArray.size (Array.replicate l.toArray.size false) a w.drew) : (Code.region id l.toArray true).wp P Q a w :=
 wp_region_any hm (wpAny_of_F _ _ _ _ h)
/-- The same, where nothing panics: for whatever post. -/
def OnlyN (Q : Exit → Act → World → Prop) (e : Exit) (a : Act) (w : World) : Prop := e = .normal ∧ Q .normal a w
theorem onlyN_panic {Q : Exit → Act → World → Prop} (x : Option Tmp) : ∀ (v : Value) (c : List PanicEntry) (a : Act) (w : World), OnlyN Q (.panic c) (a.put x v) w → OnlyN Q (.panic c) a w := fun _ _ _ _ h => by cases h.1
theorem region_FN {id : Nat} {l : List Oper} {a : Act} {w : World} (F : World → Prop) (st : Nat) (hm : P.follows .mixedOrders = true) (h : wpAnyF P .any l.toArray (OnlyN Q) F st l.toArray.size (Array.replicate l.toArray.size false) a w.drew) : (Code.region id l.toArray true).wp P Q a w := by
 intro b k cs
 obtain ⟨e, a', w', hq, hr⟩ := (region_F F st hm h : (Code.region id l.toArray true).wp P (OnlyN Q) a w) b k cs
 exact ⟨e, a', w', by rw [hq.1]; exact hq.2, hr⟩
end
/- A region that draws its order, with reads that may be taken first, as a fact on the world holds all along: for whatever program. -/
end
section
open Go Go.ChangeShapes Go.WideShapes Go.ChangeAt Go.RowKit
section
variable {P : Program} {md : Region.Mode} {ops : Array Oper} {Q : Exit → Act → World → Prop} {F : World → Prop}
/-- Every order, the fact kept all along. -/
def wpAnyK (P : Program) (md : Region.Mode) (ops : Array Oper) (Q : Exit → Act → World → Prop) (F : World → Prop) : Nat → Array Bool → Act → World → Prop
 | 0, L, a, w => Region.ready md ops L = [] ∧ Q .normal a w
 | f + 1, L, a, w => (Region.ready md ops L = [] → Q .normal a w) ∧ ∀ i ∈ Region.ready md ops L, wpOp P ops Q i (fun a' w' => F w' ∧ wpAnyK P md ops Q F f (L.setIfInBounds i true) a' w') a w
theorem wpAny_of_K : ∀ (f : Nat) (L : Array Bool) (a : Act) (w : World), wpAnyK P md ops Q F f L a w → wpAny P md ops Q f L a w
 | 0, _, _, _, h => h
 | f + 1, _, _, _, h => ⟨h.1, fun i hi => wpOp_mono (fun a' w' hk => wpAny_of_K f _ a' w' hk.2) (h.2 i hi)⟩
theorem wpAnyK_first {i : Nat} {oi : Oper} {v : Value} (hi : ops[i]? = some oi) (hsel : ∀ (j : Nat) (o : Oper) cs b, ops[j]? = some o → o.op ≠ .select cs b) (hQ : ∀ c a w, Q (.panic c) (a.put oi.dst v) w → Q (.panic c) a w) : ∀ (f : Nat) (L : Array Bool) (a : Act) (w : World),
      (∀ j oj, ops[j]? = some oj → j ≠ i → L.getD j true = false → (∀ e ∈ oj.after, Region.binds md e = true → e.on ≠ i) → oi.apart ops oj = true) →
      i ∈ Region.ready md ops L → YF P ops F oi v a → F w → wpAnyK P md ops Q F f (L.setIfInBounds i true) (a.put oi.dst v) w → wpAnyK P md ops Q F (f + 1) L a w := by
 have away : ∀ (L : Array Bool) (j : Nat) (oj : Oper), i ∈ Region.ready md ops L → j ∈ Region.ready md ops L → ops[j]? = some oj → ∀ e ∈ oj.after, Region.binds md e = true → e.on ≠ i := fun L j oj hir hjr ho e he hb heq => by
  obtain ⟨_, o', ho', hall⟩ := mem_ready.1 hjr
  obtain rfl : o' = oj := Option.some.inj (ho'.symm.trans ho)
  have h1 := hall e he hb
  have h0 := (mem_ready.1 hir).1
  rw [heq] at h1
  rcases Nat.lt_or_ge i L.size with h' | h'
  ·simp [h'] at h0 h1; rw [h0] at h1; cases h1
  ·simp [Array.getElem?_eq_none h'] at h1
 intro f
 induction f with
 | zero =>
  intro L a w hfree hr hy hF H
  refine ⟨fun h0 => (by rw [h0] at hr; cases hr), fun j hj => ?_⟩
  by_cases hji : j = i
  ·subst hji; exact hy.op hi hF ⟨hF, H⟩
  ·have := ready_mono hj hji
   rw [H.1] at this
   cases this
 | succ f ih =>
  intro L a w hfree hr hy hF H
  refine ⟨fun h0 => (by rw [h0] at hr; cases hr), fun j hj => ?_⟩
  by_cases hji : j = i
  ·subst hji; exact hy.op hi hF ⟨hF, H⟩
  ·obtain ⟨hjun, oj, hoj, _⟩ := mem_ready.1 hj
   have hno := away L j oj hr hj hoj
   have h1 := YF.past hoj (hfree j oj hoj hji hjun hno) (fun cs b => hsel i oi cs b hi) (fun cs b => hsel j oj cs b hoj) hQ hy (H.2 j (ready_mono hj hji))
   have hfree' : ∀ k ok, ops[k]? = some ok → k ≠ i → (L.setIfInBounds j true).getD k true = false → (∀ e ∈ ok.after, Region.binds md e = true → e.on ≠ i) → oi.apart ops ok = true := fun k ok hk hki hu hn => by
    refine hfree k ok hk hki ?_ hn
    by_cases hjk : j = k
    ·subst hjk; exact hjun
    ·rw [getD_set_ne true hjk] at hu; exact hu
   refine wpOp_mono (fun a' w' h3 => ?_) h1
   obtain ⟨hy', hF', hK⟩ := h3
   rw [Array.setIfInBounds_comm _ _ (Ne.symm hji)] at hK
   exact ⟨hF', ih _ a' w' hfree' (ready_mono hr (Ne.symm hji)) hy' hF' hK⟩
/-- A read is taken first. -/
theorem wpAnyK_take {i : Nat} {oi : Oper} {f : Nat} {L : Array Bool} {a : Act} {w : World} (hi : ops[i]? = some oi) (hs : Region.noSelect ops = true) (hf : Region.free md ops L i = true) (hr : (Region.ready md ops L).contains i = true)
 (hQ : ∀ v c a w, Q (.panic c) (a.put oi.dst v) w → Q (.panic c) a w) (hF : F w)
 (h : ∀ K : Act → Prop, (∀ a', wpAnyK P md ops Q F f (L.setIfInBounds i true) a' w → K a') → ∃ v, YF P ops F oi v a ∧ K (a.put oi.dst v)) : wpAnyK P md ops Q F (f + 1) L a w := by
 obtain ⟨v, hy, hk⟩ := h _ (fun _ h => h)
 exact wpAnyK_first hi (Region.noSelect_spec hs) (hQ v) f L a w (Region.free_spec hi hf) (by simpa using hr) hy hF hk
/-- One operation alone may come. -/
theorem wpAnyK_one {k : Nat} {f : Nat} {L : Array Bool} {a : Act} {w : World} (hr : Region.ready md ops L = [k]) (h : wpOp P ops Q k (fun a' w' => F w' ∧ wpAnyK P md ops Q F f (L.setIfInBounds k true) a' w') a w) : wpAnyK P md ops Q F (f + 1) L a w :=
 ⟨fun h0 => (by rw [hr] at h0; cases h0), fun i hi => by
  rw [hr] at hi
  have e : i = k := by simpa using hi
  subst e
  exact h⟩
/-- Two operations may come. -/
theorem wpAnyK_two {k1 k2 f : Nat} {L : Array Bool} {a : Act} {w : World} (hr : Region.ready md ops L = [k1, k2])
 (h1 : wpOp P ops Q k1 (fun a' w' => F w' ∧ wpAnyK P md ops Q F f (L.setIfInBounds k1 true) a' w') a w)
 (h2 : wpOp P ops Q k2 (fun a' w' => F w' ∧ wpAnyK P md ops Q F f (L.setIfInBounds k2 true) a' w') a w) : wpAnyK P md ops Q F (f + 1) L a w :=
 ⟨fun h0 => (by rw [hr] at h0; cases h0), fun i hi => by
  rw [hr] at hi
  rcases List.mem_cons.1 hi with rfl | hi
  ·exact h1
  ·have e : i = k2 := by simpa using hi
   subst e
   exact h2⟩
theorem wpAnyK_done {f : Nat} {L : Array Bool} {a : Act} {w : World} (hr : Region.ready md ops L = []) (h : Q .normal a w) : wpAnyK P md ops Q F f L a w := by
 cases f with
 | zero => exact ⟨hr, h⟩
 | succ f => exact ⟨fun _ => h, fun i hi => by rw [hr] at hi; cases hi⟩
theorem region_K {id : Nat} {l : List Oper} {a : Act} {w : World} (F : World → Prop) (hm : P.follows .mixedOrders = true) (h : wpAnyK P .any l.toArray Q F l.toArray.size (Array.replicate l.toArray.size false) a w.drew) : (Code.region id l.toArray true).wp P Q a w :=
 wp_region_any hm (wpAny_of_K _ _ _ _ h)
theorem region_KN {id : Nat} {l : List Oper} {a : Act} {w : World} (F : World → Prop) (hm : P.follows .mixedOrders = true) (h : wpAnyK P .any l.toArray (OnlyN Q) F l.toArray.size (Array.replicate l.toArray.size false) a w.drew) : (Code.region id l.toArray true).wp P Q a w := by
 intro b k cs
 obtain ⟨e, a', w', hq, hr⟩ := (region_K F hm h : (Code.region id l.toArray true).wp P (OnlyN Q) a w) b k cs
 exact ⟨e, a', w', by rw [hq.1]; exact hq.2, hr⟩
end
end
section
open Go Go.ChangeShapes Go.WideShapes Go.ChangeAt Go.RowKit
def Pq (l : List Nat) : Prop := True
theorem Pq.tl {i : Nat} {l : List Nat} (q : Pq (i :: l)) : Pq l := trivial
section
variable {P : Program} {md : Region.Mode} {ops : Array Oper} {Q : Exit → Act → World → Prop} {F : World → Prop} {st : Nat}
theorem tkF {i : Nat} {is : List Nat} {oi : Oper} {f : Nat} {L : Array Bool} {a : Act} {w : World} (q : Pq (i :: is)) (hi : ops[i]? = some oi) (hc : (Region.noSelect ops && Region.free md ops L i && (Region.ready md ops L).contains i && Region.waitsFor md ops st i && !L.getD st true) = true) (hQ : ∀ v c a w, Q (.panic c) (a.put oi.dst v) w → Q (.panic c) a w) (hF : F w)
 (h : ∀ K : Act → Prop, (∀ a', wpAnyF P md ops Q F st f (L.setIfInBounds i true) a' w → K a') → ∃ v, YF P ops F oi v a ∧ K (a.put oi.dst v)) : wpAnyF P md ops Q F st (f + 1) L a w := by
 simp only [Bool.and_eq_true, Bool.not_eq_true'] at hc
 exact wpAnyF_take hi hc.1.1.1.1 hc.1.1.1.2 hc.1.1.2 hc.1.2 hc.2 hQ hF h
theorem tkK {i : Nat} {is : List Nat} {oi : Oper} {f : Nat} {L : Array Bool} {a : Act} {w : World} (q : Pq (i :: is)) (hi : ops[i]? = some oi) (hc : (Region.noSelect ops && Region.free md ops L i && (Region.ready md ops L).contains i) = true) (hQ : ∀ v c a w, Q (.panic c) (a.put oi.dst v) w → Q (.panic c) a w) (hF : F w)
 (h : ∀ K : Act → Prop, (∀ a', wpAnyK P md ops Q F f (L.setIfInBounds i true) a' w → K a') → ∃ v, YF P ops F oi v a ∧ K (a.put oi.dst v)) : wpAnyK P md ops Q F (f + 1) L a w := by
 simp only [Bool.and_eq_true] at hc
 exact wpAnyK_take hi hc.1.1 hc.1.2 hc.2 hQ hF h
theorem tkN {i : Nat} {is : List Nat} {oi : Oper} {f : Nat} {L : Array Bool} {a : Act} {w : World} (q : Pq (i :: is)) (hi : ops[i]? = some oi) (hc : (Region.noSelect ops && Region.free md ops L i && (Region.ready md ops L).contains i) = true) (hF : F w)
 (h : ∀ K : Act → Prop, (∀ a', wpAnyK P md ops (OnlyN Q) F f (L.setIfInBounds i true) a' w → K a') → ∃ v, YF P ops F oi v a ∧ K (a.put oi.dst v)) : wpAnyK P md ops (OnlyN Q) F (f + 1) L a w := tkK q hi hc (onlyN_panic _) hF h
end
end
section
open Go Go.ChangeShapes Go.WideShapes Go.ChangeAt Go.RowKit
section
variable {P : Program} {md : Region.Mode} {ops : Array Oper} {Q : Exit → Act → World → Prop} {F : World → Prop} {st : Nat}
end
end
end Go.Proofs.YtfbjljcmmbdhkaaGreatDoor
