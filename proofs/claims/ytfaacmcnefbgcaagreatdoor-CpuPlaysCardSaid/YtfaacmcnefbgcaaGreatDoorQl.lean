/- A region that draws its order, whose last operations come behind all others: its head as a region of its own, then the rest in order: for whatever program. -/
import Derived.Test.YtfaacmcnefbgcaaGreatDoorJd
import Derived.StillTail
import Derived.RegionTactic
namespace Go.Proofs.YtfaacmcnefbgcaaGreatDoor.m4
open Go Go.ChangeShapes Go.WideShapes Go.ChangeAt Go.RowKit
set_option linter.unusedVariables false
/-- What the head's first n operations ask of the text. -/
def headB (ops : Array Oper) (n : Nat) : Bool :=
  decide (n < ops.size) && Region.sinkB .any ops n && Region.chainB .any ops n && Region.seqB .any ops (ops.size - n) n (Array.replicate n true ++ Array.replicate (ops.size - n) false) &&
    (List.range n).all fun i => match ops[i]? with
      | none => false
      | some o => (o.after.all fun e => !Region.binds .any e || decide (e.on < i)) && (match o.guard with | none => true | some g => decide (g.1 < n))
/-- What stands behind the head. -/
def headQ (P : Program) (l : List Oper) (Q : Exit → Act → World → Prop) (n : Nat) : Exit → Act → World → Prop
  | .normal, a, w => wpList P l.toArray Q (l.drop n) a w
  | e, a, w => Q e a w
theorem headQ_exit {P : Program} {l : List Oper} {Q : Exit → Act → World → Prop} {n : Nat} {e : Exit} {a : Act} {w : World} (h : e ≠ .normal) (hq : headQ P l Q n e a w) : Q e a w := by
  cases e <;> first | exact absurd rfl h | exact hq
theorem upon_exit {P : Program} {o : Oper} {a : Act} {K : Act → World → Prop} {Q Q' : Exit → Act → World → Prop} {r : Result Next} (h : ∀ e a w, e ≠ .normal → Q e a w → Q' e a w) (hh : o.upon P a K Q r) : o.upon P a K Q' r := by
  have hL : LetsOut Q → LetsOut Q' := fun ⟨a, w, hq⟩ => ⟨a, w, h _ _ _ (by intro e; cases e) hq⟩
  cases r with
  | ok n w' =>
    cases n <;> simp only [Oper.upon] at hh ⊢ <;>
      first
        | exact hh
        | exact Calls.mono hh (fun e w'' he => by cases e <;> first | exact he | exact h _ _ _ (by intro e; cases e) he | exact hL he)
  | halt x w' => cases x <;> simp only [Oper.upon] at hh ⊢ <;> exact h _ _ _ (by intro e; cases e) hh
theorem take_at {l : List Oper} {n i : Nat} (hi : i < n) : (l.take n).toArray[i]? = l.toArray[i]? := by simp [hi]
theorem yielded_take {l : List Oper} {n j : Nat} {t : Array Value} (hj : j < n) : yielded (l.take n).toArray t j = yielded l.toArray t j := by unfold yielded; rw [take_at hj]
theorem wpOp_head {P : Program} {l : List Oper} {n i : Nat} {Q Q' : Exit → Act → World → Prop} {K K' : Act → World → Prop} {a : Act} {w : World} (hi : i < n) (hg : ∀ o, l.toArray[i]? = some o → ∀ g, o.guard = some g → g.1 < n)
    (h : ∀ e a w, e ≠ .normal → Q e a w → Q' e a w) (hk : ∀ a w, K a w → K' a w) (hh : wpOp P (l.take n).toArray Q i K a w) : wpOp P l.toArray Q' i K' a w := by
  refine wpOp_mono hk ?_
  unfold wpOp at *
  rw [take_at hi] at hh
  split
  · rename_i ho; rw [ho] at hh; exact hh
  · rename_i o ho
    rw [ho] at hh
    simp only at hh
    have hw : Region.wanted o (yielded (l.take n).toArray a.tmps) = Region.wanted o (yielded l.toArray a.tmps) := by
      unfold Region.wanted
      split
      · rfl
      · rename_i j want hgo
        rw [yielded_take (hg o ho _ hgo)]
    rw [hw] at hh
    split at hh
    · rename_i hwt
      rw [if_pos hwt]
      exact hh.imp (fun hp => upon_exit h hp) (fun ⟨x, a, w, hq⟩ => ⟨x, a, w, h _ _ _ (by intro e; cases e) hq⟩)
    · rename_i hwf
      rw [if_neg hwf]
      exact hh
theorem wpAny_more {P : Program} {md : Region.Mode} {ops : Array Oper} {Q : Exit → Act → World → Prop} : ∀ (f : Nat) (L : Array Bool) (a : Act) (w : World), wpAny P md ops Q f L a w → wpAny P md ops Q (f + 1) L a w
  | 0, L, a, w, h => ⟨fun _ => h.2, fun i hi => by rw [h.1] at hi; cases hi⟩
  | f + 1, L, a, w, h => ⟨h.1, fun i hi => wpOp_mono (fun a' w' hk => wpAny_more f _ a' w' hk) (h.2 i hi)⟩
theorem wpAny_mores {P : Program} {md : Region.Mode} {ops : Array Oper} {Q : Exit → Act → World → Prop} {L : Array Bool} {a : Act} {w : World} (g : Nat) (h : wpAny P md ops Q g L a w) : ∀ f, wpAny P md ops Q (f + g) L a w
  | 0 => by rw [Nat.zero_add]; exact h
  | f + 1 => by rw [show f + 1 + g = (f + g) + 1 by omega]; exact wpAny_more _ _ _ _ (wpAny_mores g h f)
theorem least_of {p : Nat → Prop} : ∀ n : Nat, (∃ i, i < n ∧ p i) → ∃ i, i < n ∧ p i ∧ ∀ j, j < i → ¬ p j := by
  intro n
  induction n with
  | zero => rintro ⟨i, hi, _⟩; omega
  | succ n ih =>
    rintro ⟨i, hi, hp⟩
    by_cases h : ∃ j, j < n ∧ p j
    · obtain ⟨j, hj, hpj, hm⟩ := ih h
      exact ⟨j, by omega, hpj, hm⟩
    · have : i = n := by
        rcases Nat.lt_or_ge i n with h' | h'
        · exact absurd ⟨i, h', hp⟩ h
        · omega
      subst this
      exact ⟨i, by omega, hp, fun j hj hpj => h ⟨j, hj, hpj⟩⟩
section
variable {P : Program} {l : List Oper} {n : Nat} {Q : Exit → Act → World → Prop}
/-- The head's states, as those of the whole. -/
def cutL (n : Nat) (L : Array Bool) : Array Bool := (L.toList.take n).toArray
theorem cutL_at {L : Array Bool} {i : Nat} (hi : i < n) (b : Bool) : (cutL n L).getD i b = L.getD i b := by
  unfold cutL
  simp only [Array.getD_eq_getD_getElem?, List.getElem?_toArray, List.getElem?_take, hi, if_true, Array.getElem?_toList]
theorem cutL_set {L : Array Bool} {i : Nat} (hi : i < n) : cutL n (L.setIfInBounds i true) = (cutL n L).setIfInBounds i true := by
  unfold cutL
  apply Array.ext'
  simp [List.take_set]
theorem headB_parts (hB : headB l.toArray n = true) : n < l.toArray.size ∧ Region.sinkB .any l.toArray n = true ∧ Region.chainB .any l.toArray n = true ∧ Region.seqB .any l.toArray (l.toArray.size - n) n (Array.replicate n true ++ Array.replicate (l.toArray.size - n) false) = true ∧
    (∀ i, i < n → ∀ o, l.toArray[i]? = some o → (∀ e ∈ o.after, Region.binds .any e = true → e.on < i) ∧ ∀ g, o.guard = some g → g.1 < n) := by
  unfold headB at hB
  simp only [Bool.and_eq_true, decide_eq_true_eq] at hB
  obtain ⟨⟨⟨⟨h1, h2⟩, h3⟩, h4⟩, h5⟩ := hB
  refine ⟨h1, h2, h3, h4, fun i hi o ho => ?_⟩
  have := List.all_eq_true.1 h5 i (List.mem_range.2 hi)
  rw [ho] at this
  simp only [Bool.and_eq_true] at this
  obtain ⟨ha, hg⟩ := this
  refine ⟨fun e he hb => ?_, fun g hgo => ?_⟩
  · have := (Array.all_eq_true'.1 ha) e he
    rw [hb] at this
    simpa using this
  · rw [hgo] at hg
    simpa using hg
theorem cut_ready {L : Array Bool} {i : Nat} (hB : headB l.toArray n = true) (hi : i < n) : i ∈ Region.ready .any l.toArray L ↔ i ∈ Region.ready .any (l.take n).toArray (cutL n L) := by
  obtain ⟨h1, _, _, _, h5⟩ := headB_parts hB
  rw [mem_ready, mem_ready, take_at hi, cutL_at hi]
  constructor
  · rintro ⟨a, o, ho, hall⟩
    exact ⟨a, o, ho, fun e he hb => by rw [cutL_at (by have := (h5 i hi o ho).1 e he hb; omega)]; exact hall e he hb⟩
  · rintro ⟨a, o, ho, hall⟩
    exact ⟨a, o, ho, fun e he hb => by have := hall e he hb; rwa [cutL_at (by have := (h5 i hi o ho).1 e he hb; omega)] at this⟩
theorem none_ready {L : Array Bool} (hB : headB l.toArray n = true) (hI : HeadInv .any l.toArray n L) (h : Region.ready .any (l.take n).toArray (cutL n L) = []) : ∀ i, i < n → L.getD i true = true := by
  obtain ⟨h1, _, _, _, h5⟩ := headB_parts hB
  intro i hi
  cases hl : L.getD i true with
  | true => rfl
  | false =>
    obtain ⟨j, hj, hjl, hm⟩ := least_of (p := fun i => L.getD i true = false) n ⟨i, hi, hl⟩
    obtain ⟨o, ho⟩ : ∃ o, l.toArray[j]? = some o := ⟨_, Array.getElem?_eq_getElem (by omega)⟩
    have hr : j ∈ Region.ready .any l.toArray L := mem_ready.2 ⟨hjl, o, ho, fun e he hb => by
      have hlt := (h5 j hj o ho).1 e he hb
      have := hm e.on hlt
      have ht : L.getD e.on true = true := by simpa using this
      have hs : e.on < L.size := by rw [hI.size]; omega
      simp [hs] at ht ⊢
      exact ht⟩
    rw [cut_ready hB hj, h] at hr
    cases hr
theorem all_listed {L : Array Bool} (hI : HeadInv .any l.toArray n L) (hn : n < l.toArray.size) (h : ∀ i, i < n → L.getD i true = true) : L = Array.replicate n true ++ Array.replicate (l.toArray.size - n) false := by
  have hs := hI.size
  apply Array.ext
  · simp only [Array.size_append, Array.size_replicate]; omega
  · intro i h1 h2
    rw [Array.getElem_append]
    split
    · rename_i hi
      have hi' : i < n := by simpa using hi
      have := h i hi'
      simp [h1] at this ⊢
      exact this
    · rename_i hi
      have hi' : n ≤ i := by simpa using hi
      have := hI.tail i hi' (by omega)
      simp [h1] at this ⊢
      exact this
theorem wpAny_headed (hB : headB l.toArray n = true) : ∀ (f : Nat) (L : Array Bool) (a : Act) (w : World), HeadInv .any l.toArray n L → wpAny P .any (l.take n).toArray (headQ P l Q n) f (cutL n L) a w → wpAny P .any l.toArray Q (f + (l.toArray.size - n)) L a w := by
  obtain ⟨h1, h2, h3, h4, h5⟩ := headB_parts hB
  have fin : ∀ (f : Nat) (L : Array Bool) (a : Act) (w : World), HeadInv .any l.toArray n L → Region.ready .any (l.take n).toArray (cutL n L) = [] → headQ P l Q n .normal a w → wpAny P .any l.toArray Q (f + (l.toArray.size - n)) L a w := by
    intro f L a w hI hr hq
    refine wpAny_mores _ ?_ f
    have hL := all_listed hI h1 (none_ready hB hI hr)
    have hlen : (l.drop n).length = l.toArray.size - n := by simp
    have := wpAny_of_seq (P := P) (md := .any) (ops := l.toArray) (Q' := Q) (l.drop n) n L a w (fun j => by simp [List.getElem?_drop]) (by rw [hlen, hL]; exact h4) hq
    rwa [hlen] at this
  intro f
  induction f with
  | zero =>
    intro L a w hI h
    exact fin 0 L a w hI h.1 h.2
  | succ f ih =>
    intro L a w hI h
    by_cases hr : Region.ready .any (l.take n).toArray (cutL n L) = []
    · exact fin (f + 1) L a w hI hr (h.1 hr)
    · rw [show f + 1 + (l.toArray.size - n) = (f + (l.toArray.size - n)) + 1 by omega]
      obtain ⟨j, hj⟩ := List.exists_mem_of_ne_nil _ hr
      have hjn : j < n := by
        obtain ⟨_, o, ho, _⟩ := mem_ready.1 hj
        have := (Array.getElem?_eq_some_iff.1 ho).1
        simp at this
        omega
      have hjr := (cut_ready hB hjn).2 hj
      refine ⟨fun h0 => (by rw [h0] at hjr; cases hjr), fun i hi => ?_⟩
      have hin : i < n := by
        rcases Nat.lt_or_ge i n with h' | h'
        · exact h'
        · have hun : L.getD j true = false := (mem_ready.1 hjr).1
          exact absurd hi (tail_waits h2 h3 h1 hI _ j rfl hjn hun i h')
      have hp := h.2 i ((cut_ready hB hin).1 hi)
      rw [← cutL_set hin] at hp
      exact wpOp_head hin (fun o ho g hg => (h5 i hin o ho).2 g hg) (fun e a w => headQ_exit) (fun a' w' hk => ih _ a' w' (hI.set hi hin) hk) hp
theorem region_head {id : Nat} {a : Act} {w : World} (n : Nat) (hm : P.follows .mixedOrders = true) (hB : headB l.toArray n = true)
    (h : wpAny P .any (l.take n).toArray (headQ P l Q n) n (Array.replicate n false) a w.drew) : (Code.region id l.toArray true).wp P Q a w := by
  obtain ⟨h1, _⟩ := headB_parts hB
  refine wp_region_any hm ?_
  have hI : HeadInv .any l.toArray n (Array.replicate l.toArray.size false) :=
    ⟨by simp, fun j oj _ hl => (by rw [getD_replicate_false] at hl; cases hl), fun t _ ht => getD_in (by simpa using ht) (getD_replicate_false _ _)⟩
  have hc : cutL n (Array.replicate l.toArray.size false) = Array.replicate n false := by
    unfold cutL
    apply Array.ext'
    simp only [Array.toList_replicate, List.take_replicate]
    rw [show min n l.toArray.size = n by omega]
  have := wpAny_headed (Q := Q) (P := P) hB n (Array.replicate l.toArray.size false) a w.drew hI (by rw [hc]; exact h)
  rw [show n + (l.toArray.size - n) = l.toArray.size by omega] at this
  exact this
/-- The head only reads, and its callees lay only what is new: one walk, then the rest in order. -/
theorem region_belowT {id : Nat} {a : Act} {w : World} (n : Nat) (hm : P.follows .mixedOrders = true) (hB : headB l.toArray n = true) (hL : Region.lexB .any (l.take n).toArray = true)
    (h : wpQuiet P (l.take n).toArray (fun w' => Below w.heap.size w w') (fun a' => ∀ w', Below w.heap.size w w' → wpList P l.toArray Q (l.drop n) a' w') (l.take n) a) : (Code.region id l.toArray true).wp P Q a w := by
  obtain ⟨h1, _⟩ := headB_parts hB
  refine region_head n hm hB ?_
  simp only [Region.lexB, Bool.and_eq_true] at hL
  have hsz : (l.take n).length = n := by simp at h1 ⊢; omega
  have := wpAnyQ_lex (C := fun w' => Below w.heap.size w w') (md := .any) hL.1 (l.take n) 0 (Array.replicate n false) a (by simp) (by rw [hsz]; simpa [hsz] using hL.2) h
  rw [hsz] at this
  exact wpAny_of_quiet (Q' := headQ P l Q n) (fun a' w' hw' hq => hq w' hw') n _ a w.drew (bd1 (Below.refl _ w)) this
end
end Go.Proofs.YtfaacmcnefbgcaaGreatDoor.m4

/- A region that draws its order, with reads that may be taken first as long as a fact on the world holds: for whatever program. -/
namespace Go.Proofs.YtfaacmcnefbgcaaGreatDoor.m4
open Go Go.ChangeShapes Go.WideShapes Go.ChangeAt Go.RowKit
set_option linter.unusedVariables false
section
variable {P : Program} {md : Region.Mode} {ops : Array Oper} {Q : Exit → Act → World → Prop} {F : World → Prop} {st : Nat}
/-- Where the fact holds, the operation leaves that value, and the world as it is. -/
def YF (P : Program) (ops : Array Oper) (F : World → Prop) (o : Oper) (v : Value) (a : Act) : Prop :=
  (Region.wanted o (yielded ops a.tmps) = true ∧ ∀ w, F w → (execOp a.eval o).run P w = .ok (.value v) w) ∨ (Region.wanted o (yielded ops a.tmps) = false ∧ v = undef)
theorem YF.same {o : Oper} {v : Value} {a a' : Act} (h : YF P ops F o v a) (he : execOp a'.eval o = execOp a.eval o) (hw : Region.wanted o (yielded ops a'.tmps) = Region.wanted o (yielded ops a.tmps)) : YF P ops F o v a' := by
  unfold YF; rw [he, hw]; exact h
theorem YF.op {i : Nat} {o : Oper} {v : Value} {a : Act} {w : World} {K : Act → World → Prop} (hi : ops[i]? = some o) (h : YF P ops F o v a) (hF : F w) (hk : K (a.put o.dst v) w) : wpOp P ops Q i K a w := by
  unfold wpOp
  simp only [hi]
  rcases h with ⟨hw, hv⟩ | ⟨hw, rfl⟩
  · rw [if_pos hw]; left; unfold Oper.wp; rw [hv w hF]; exact hk
  · rw [if_neg (by rw [hw]; exact Bool.false_ne_true)]; exact hk
/-- An operation that is apart from one that reads: it may come behind it, or ahead. -/
theorem YF.past {j : Nat} {oi oj : Oper} {v : Value} (hj : ops[j]? = some oj) (hap : oi.apart ops oj = true) (hsi : ∀ cs b, oi.op ≠ .select cs b) (hsj : ∀ cs b, oj.op ≠ .select cs b)
    (hQ : ∀ c a w, Q (.panic c) (a.put oi.dst v) w → Q (.panic c) a w) {K : Act → World → Prop} {a : Act} {w : World} (hy : YF P ops F oi v a) (h : wpOp P ops Q j K (a.put oi.dst v) w) :
    wpOp P ops Q j (fun a' w' => YF P ops F oi v a' ∧ K (a'.put oi.dst v) w') a w := by
  obtain ⟨h1, h2, h3⟩ := Oper.apart_spec hap
  have kp : ∀ b, YF P ops F oi v b → ∀ u, YF P ops F oi v (b.put oj.dst u) := fun b hb u => hb.same (execOp_put oi hsi b oj.dst u h3) (wanted_put oi b oj.dst u h3)
  have both : ∀ u w', K ((a.put oi.dst v).put oj.dst u) w' → YF P ops F oi v (a.put oj.dst u) ∧ K ((a.put oj.dst u).put oi.dst v) w' := fun u w' hk => ⟨kp a hy u, by rw [← Act.put_comm a v u h2]; exact hk⟩
  unfold wpOp at h ⊢
  simp only [hj] at h ⊢
  rw [wanted_put oj a oi.dst v h1] at h
  by_cases hw : Region.wanted oj (yielded ops a.tmps) = true
  · rw [if_pos hw] at h ⊢
    rcases h with h | ⟨hk, hl⟩
    · left
      unfold Oper.wp at h ⊢
      rw [execOp_put oj hsj a oi.dst v h1] at h
      cases hr : (execOp a.eval oj).run P w with
      | ok n w' =>
        rw [hr] at h
        cases n <;> simp only [Oper.upon] at h ⊢
        case value u => exact both _ _ h
        case skip => exact both _ _ h
        case defer d => exact ⟨kp { a with defers := d :: a.defers } (hy.same rfl rfl) _, by rw [← Act.put_comm _ v undef h2, ← Act.put_defers]; exact h⟩
        case enter f args => exact Calls.mono h fun e w'' he => by
                                cases e with
                                | returned u => exact both _ _ he
                                | panicked c => exact hQ _ _ _ he
                                | outgrown => exact he
        case row row args => exact Rows.mono h fun u w'' he => both _ _ he
      | halt x w' =>
        rw [hr] at h
        cases x <;> simp only [Oper.upon] at h ⊢
        case panic u => exact hQ _ _ _ h
    · right
      exact ⟨by unfold Oper.asks at hk ⊢; rw [execOp_put oj hsj a oi.dst v h1] at hk; exact hk, hl⟩
  · rw [if_neg hw] at h ⊢
    exact both _ _ h
/-- Every order, the fact kept till operation st comes. -/
def wpAnyF (P : Program) (md : Region.Mode) (ops : Array Oper) (Q : Exit → Act → World → Prop) (F : World → Prop) (st : Nat) : Nat → Array Bool → Act → World → Prop
  | 0, L, a, w => Region.ready md ops L = [] ∧ Q .normal a w
  | f + 1, L, a, w => (Region.ready md ops L = [] → Q .normal a w) ∧ ∀ i ∈ Region.ready md ops L, wpOp P ops Q i (fun a' w' => ((L.setIfInBounds i true).getD st true = false → F w') ∧ wpAnyF P md ops Q F st f (L.setIfInBounds i true) a' w') a w
theorem wpAny_of_F : ∀ (f : Nat) (L : Array Bool) (a : Act) (w : World), wpAnyF P md ops Q F st f L a w → wpAny P md ops Q f L a w
  | 0, _, _, _, h => h
  | f + 1, _, _, _, h => ⟨h.1, fun i hi => wpOp_mono (fun a' w' hk => wpAny_of_F f _ a' w' hk.2) (h.2 i hi)⟩
theorem wpAnyF_first {i : Nat} {oi : Oper} {v : Value} (hi : ops[i]? = some oi) (hsel : ∀ (j : Nat) (o : Oper) cs b, ops[j]? = some o → o.op ≠ .select cs b) (hQ : ∀ c a w, Q (.panic c) (a.put oi.dst v) w → Q (.panic c) a w)
    (hst : Region.waitsFor md ops st i = true) : ∀ (f : Nat) (L : Array Bool) (a : Act) (w : World),
      (∀ j oj, ops[j]? = some oj → j ≠ i → L.getD j true = false → (∀ e ∈ oj.after, Region.binds md e = true → e.on ≠ i) → oi.apart ops oj = true) →
      i ∈ Region.ready md ops L → L.getD st true = false → YF P ops F oi v a → F w → wpAnyF P md ops Q F st f (L.setIfInBounds i true) (a.put oi.dst v) w → wpAnyF P md ops Q F st (f + 1) L a w := by
  obtain ⟨os, hos, es, hes, hbs, hon⟩ := Region.waitsFor_spec hst
  -- who waits for i is not ready as long as i is not listed
  have away : ∀ (L : Array Bool) (j : Nat) (oj : Oper), i ∈ Region.ready md ops L → j ∈ Region.ready md ops L → ops[j]? = some oj → ∀ e ∈ oj.after, Region.binds md e = true → e.on ≠ i := fun L j oj hir hjr ho e he hb heq => by
    obtain ⟨_, o', ho', hall⟩ := mem_ready.1 hjr
    obtain rfl : o' = oj := Option.some.inj (ho'.symm.trans ho)
    have h1 := hall e he hb
    have h0 := (mem_ready.1 hir).1
    rw [heq] at h1
    rcases Nat.lt_or_ge i L.size with h' | h'
    · simp [h'] at h0 h1; rw [h0] at h1; cases h1
    · simp [Array.getElem?_eq_none h'] at h1
  intro f
  induction f with
  | zero =>
    intro L a w hfree hr hun hy hF H
    refine ⟨fun h0 => (by rw [h0] at hr; cases hr), fun j hj => ?_⟩
    by_cases hji : j = i
    · subst hji; exact hy.op hi hF ⟨fun _ => hF, H⟩
    · have := ready_mono hj hji
      rw [H.1] at this
      cases this
  | succ f ih =>
    intro L a w hfree hr hun hy hF H
    refine ⟨fun h0 => (by rw [h0] at hr; cases hr), fun j hj => ?_⟩
    by_cases hji : j = i
    · subst hji; exact hy.op hi hF ⟨fun _ => hF, H⟩
    · obtain ⟨hjun, oj, hoj, _⟩ := mem_ready.1 hj
      have hno := away L j oj hr hj hoj
      have hjs : j ≠ st := fun e => by
        subst e
        obtain rfl : os = oj := Option.some.inj (hos.symm.trans hoj)
        exact hno es hes hbs hon
      have h1 := YF.past hoj (hfree j oj hoj hji hjun hno) (fun cs b => hsel i oi cs b hi) (fun cs b => hsel j oj cs b hoj) hQ hy (H.2 j (ready_mono hj hji))
      have hfree' : ∀ k ok, ops[k]? = some ok → k ≠ i → (L.setIfInBounds j true).getD k true = false → (∀ e ∈ ok.after, Region.binds md e = true → e.on ≠ i) → oi.apart ops ok = true := fun k ok hk hki hu hn => by
        refine hfree k ok hk hki ?_ hn
        by_cases hjk : j = k
        · subst hjk; exact hjun
        · rw [getD_set_ne true hjk] at hu; exact hu
      have hunj : (L.setIfInBounds j true).getD st true = false := by rw [getD_set_ne true hjs]; exact hun
      refine wpOp_mono (fun a' w' h3 => ?_) h1
      obtain ⟨hy', hC, hK⟩ := h3
      rw [Array.setIfInBounds_comm _ _ (Ne.symm hji)] at hC hK
      have hF' : F w' := hC (by
        have his : i ≠ st := fun e => by
          subst e
          have := (mem_ready.1 hr).2
          obtain ⟨o', ho', hall⟩ := this
          obtain rfl : o' = os := Option.some.inj (ho'.symm.trans hos)
          have h1 := hall es hes hbs
          rw [hon] at h1
          rcases Nat.lt_or_ge i L.size with h' | h'
          · simp [h'] at hun h1; rw [hun] at h1; cases h1
          · simp [Array.getElem?_eq_none h'] at h1
        rw [getD_set_ne true his]; exact hunj)
      exact ⟨fun _ => hF', ih _ a' w' hfree' (ready_mono hr (Ne.symm hji)) hunj hy' hF' hK⟩
/-- A read is taken first. -/
theorem wpAnyF_take {i : Nat} {oi : Oper} {f : Nat} {L : Array Bool} {a : Act} {w : World} (hi : ops[i]? = some oi) (hs : Region.noSelect ops = true) (hf : Region.free md ops L i = true) (hr : (Region.ready md ops L).contains i = true)
    (hst : Region.waitsFor md ops st i = true) (hun : L.getD st true = false) (hQ : ∀ v c a w, Q (.panic c) (a.put oi.dst v) w → Q (.panic c) a w) (hF : F w)
    (h : ∀ K : Act → Prop, (∀ a', wpAnyF P md ops Q F st f (L.setIfInBounds i true) a' w → K a') → ∃ v, YF P ops F oi v a ∧ K (a.put oi.dst v)) : wpAnyF P md ops Q F st (f + 1) L a w := by
  obtain ⟨v, hy, hk⟩ := h _ (fun _ h => h)
  exact wpAnyF_first hi (Region.noSelect_spec hs) (hQ v) hst f L a w (Region.free_spec hi hf) (by simpa using hr) hun hy hF hk
/-- One operation alone may come. -/
theorem wpAnyF_one {k : Nat} {f : Nat} {L : Array Bool} {a : Act} {w : World} (hr : Region.ready md ops L = [k]) (h : wpOp P ops Q k (fun a' w' => ((L.setIfInBounds k true).getD st true = false → F w') ∧ wpAnyF P md ops Q F st f (L.setIfInBounds k true) a' w') a w) : wpAnyF P md ops Q F st (f + 1) L a w :=
  ⟨fun h0 => (by rw [hr] at h0; cases h0), fun i hi => by
    rw [hr] at hi
    have e : i = k := by simpa using hi
    subst e
    exact h⟩
theorem wpAnyF_done {f : Nat} {L : Array Bool} {a : Act} {w : World} (hr : Region.ready md ops L = []) (h : Q .normal a w) : wpAnyF P md ops Q F st f L a w := by
  cases f with
  | zero => exact ⟨hr, h⟩
  | succ f => exact ⟨fun _ => h, fun i hi => by rw [hr] at hi; cases hi⟩
theorem region_F {id : Nat} {l : List Oper} {a : Act} {w : World} (F : World → Prop) (st : Nat) (hm : P.follows .mixedOrders = true) (h : wpAnyF P .any l.toArray Q F st l.toArray.size (Array.replicate l.toArray.size false) a w.drew) : (Code.region id l.toArray true).wp P Q a w :=
  wp_region_any hm (wpAny_of_F _ _ _ _ h)
/-- The same, where nothing panics: for whatever post. -/
def OnlyN (Q : Exit → Act → World → Prop) (e : Exit) (a : Act) (w : World) : Prop := e = .normal ∧ Q .normal a w
theorem onlyN_panic {Q : Exit → Act → World → Prop} (x : Option Tmp) : ∀ (v : Value) (c : List PanicEntry) (a : Act) (w : World), OnlyN Q (.panic c) (a.put x v) w → OnlyN Q (.panic c) a w := fun _ _ _ _ h => by cases h.1
theorem region_FN {id : Nat} {l : List Oper} {a : Act} {w : World} (F : World → Prop) (st : Nat) (hm : P.follows .mixedOrders = true) (h : wpAnyF P .any l.toArray (OnlyN Q) F st l.toArray.size (Array.replicate l.toArray.size false) a w.drew) : (Code.region id l.toArray true).wp P Q a w := by
  intro b k cs
  obtain ⟨e, a', w', hq, hr⟩ := (region_F F st hm h : (Code.region id l.toArray true).wp P (OnlyN Q) a w) b k cs
  exact ⟨e, a', w', by rw [hq.1]; exact hq.2, hr⟩
end
end Go.Proofs.YtfaacmcnefbgcaaGreatDoor.m4

/- A region that draws its order, with reads that may be taken first, as a fact on the world holds all along: for whatever program. -/
namespace Go.Proofs.YtfaacmcnefbgcaaGreatDoor.m4
open Go Go.ChangeShapes Go.WideShapes Go.ChangeAt Go.RowKit
set_option linter.unusedVariables false
section
variable {P : Program} {md : Region.Mode} {ops : Array Oper} {Q : Exit → Act → World → Prop} {F : World → Prop}
/-- Every order, the fact kept all along. -/
def wpAnyK (P : Program) (md : Region.Mode) (ops : Array Oper) (Q : Exit → Act → World → Prop) (F : World → Prop) : Nat → Array Bool → Act → World → Prop
  | 0, L, a, w => Region.ready md ops L = [] ∧ Q .normal a w
  | f + 1, L, a, w => (Region.ready md ops L = [] → Q .normal a w) ∧ ∀ i ∈ Region.ready md ops L, wpOp P ops Q i (fun a' w' => F w' ∧ wpAnyK P md ops Q F f (L.setIfInBounds i true) a' w') a w
theorem wpAny_of_K : ∀ (f : Nat) (L : Array Bool) (a : Act) (w : World), wpAnyK P md ops Q F f L a w → wpAny P md ops Q f L a w
  | 0, _, _, _, h => h
  | f + 1, _, _, _, h => ⟨h.1, fun i hi => wpOp_mono (fun a' w' hk => wpAny_of_K f _ a' w' hk.2) (h.2 i hi)⟩
theorem wpAnyK_first {i : Nat} {oi : Oper} {v : Value} (hi : ops[i]? = some oi) (hsel : ∀ (j : Nat) (o : Oper) cs b, ops[j]? = some o → o.op ≠ .select cs b) (hQ : ∀ c a w, Q (.panic c) (a.put oi.dst v) w → Q (.panic c) a w) : ∀ (f : Nat) (L : Array Bool) (a : Act) (w : World),
      (∀ j oj, ops[j]? = some oj → j ≠ i → L.getD j true = false → (∀ e ∈ oj.after, Region.binds md e = true → e.on ≠ i) → oi.apart ops oj = true) →
      i ∈ Region.ready md ops L → YF P ops F oi v a → F w → wpAnyK P md ops Q F f (L.setIfInBounds i true) (a.put oi.dst v) w → wpAnyK P md ops Q F (f + 1) L a w := by
  have away : ∀ (L : Array Bool) (j : Nat) (oj : Oper), i ∈ Region.ready md ops L → j ∈ Region.ready md ops L → ops[j]? = some oj → ∀ e ∈ oj.after, Region.binds md e = true → e.on ≠ i := fun L j oj hir hjr ho e he hb heq => by
    obtain ⟨_, o', ho', hall⟩ := mem_ready.1 hjr
    obtain rfl : o' = oj := Option.some.inj (ho'.symm.trans ho)
    have h1 := hall e he hb
    have h0 := (mem_ready.1 hir).1
    rw [heq] at h1
    rcases Nat.lt_or_ge i L.size with h' | h'
    · simp [h'] at h0 h1; rw [h0] at h1; cases h1
    · simp [Array.getElem?_eq_none h'] at h1
  intro f
  induction f with
  | zero =>
    intro L a w hfree hr hy hF H
    refine ⟨fun h0 => (by rw [h0] at hr; cases hr), fun j hj => ?_⟩
    by_cases hji : j = i
    · subst hji; exact hy.op hi hF ⟨hF, H⟩
    · have := ready_mono hj hji
      rw [H.1] at this
      cases this
  | succ f ih =>
    intro L a w hfree hr hy hF H
    refine ⟨fun h0 => (by rw [h0] at hr; cases hr), fun j hj => ?_⟩
    by_cases hji : j = i
    · subst hji; exact hy.op hi hF ⟨hF, H⟩
    · obtain ⟨hjun, oj, hoj, _⟩ := mem_ready.1 hj
      have hno := away L j oj hr hj hoj
      have h1 := YF.past hoj (hfree j oj hoj hji hjun hno) (fun cs b => hsel i oi cs b hi) (fun cs b => hsel j oj cs b hoj) hQ hy (H.2 j (ready_mono hj hji))
      have hfree' : ∀ k ok, ops[k]? = some ok → k ≠ i → (L.setIfInBounds j true).getD k true = false → (∀ e ∈ ok.after, Region.binds md e = true → e.on ≠ i) → oi.apart ops ok = true := fun k ok hk hki hu hn => by
        refine hfree k ok hk hki ?_ hn
        by_cases hjk : j = k
        · subst hjk; exact hjun
        · rw [getD_set_ne true hjk] at hu; exact hu
      refine wpOp_mono (fun a' w' h3 => ?_) h1
      obtain ⟨hy', hF', hK⟩ := h3
      rw [Array.setIfInBounds_comm _ _ (Ne.symm hji)] at hK
      exact ⟨hF', ih _ a' w' hfree' (ready_mono hr (Ne.symm hji)) hy' hF' hK⟩
/-- A read is taken first. -/
theorem wpAnyK_take {i : Nat} {oi : Oper} {f : Nat} {L : Array Bool} {a : Act} {w : World} (hi : ops[i]? = some oi) (hs : Region.noSelect ops = true) (hf : Region.free md ops L i = true) (hr : (Region.ready md ops L).contains i = true)
    (hQ : ∀ v c a w, Q (.panic c) (a.put oi.dst v) w → Q (.panic c) a w) (hF : F w)
    (h : ∀ K : Act → Prop, (∀ a', wpAnyK P md ops Q F f (L.setIfInBounds i true) a' w → K a') → ∃ v, YF P ops F oi v a ∧ K (a.put oi.dst v)) : wpAnyK P md ops Q F (f + 1) L a w := by
  obtain ⟨v, hy, hk⟩ := h _ (fun _ h => h)
  exact wpAnyK_first hi (Region.noSelect_spec hs) (hQ v) f L a w (Region.free_spec hi hf) (by simpa using hr) hy hF hk
/-- One operation alone may come. -/
theorem wpAnyK_one {k : Nat} {f : Nat} {L : Array Bool} {a : Act} {w : World} (hr : Region.ready md ops L = [k]) (h : wpOp P ops Q k (fun a' w' => F w' ∧ wpAnyK P md ops Q F f (L.setIfInBounds k true) a' w') a w) : wpAnyK P md ops Q F (f + 1) L a w :=
  ⟨fun h0 => (by rw [hr] at h0; cases h0), fun i hi => by
    rw [hr] at hi
    have e : i = k := by simpa using hi
    subst e
    exact h⟩
/-- Two operations may come. -/
theorem wpAnyK_two {k1 k2 f : Nat} {L : Array Bool} {a : Act} {w : World} (hr : Region.ready md ops L = [k1, k2])
    (h1 : wpOp P ops Q k1 (fun a' w' => F w' ∧ wpAnyK P md ops Q F f (L.setIfInBounds k1 true) a' w') a w)
    (h2 : wpOp P ops Q k2 (fun a' w' => F w' ∧ wpAnyK P md ops Q F f (L.setIfInBounds k2 true) a' w') a w) : wpAnyK P md ops Q F (f + 1) L a w :=
  ⟨fun h0 => (by rw [hr] at h0; cases h0), fun i hi => by
    rw [hr] at hi
    rcases List.mem_cons.1 hi with rfl | hi
    · exact h1
    · have e : i = k2 := by simpa using hi
      subst e
      exact h2⟩
theorem wpAnyK_done {f : Nat} {L : Array Bool} {a : Act} {w : World} (hr : Region.ready md ops L = []) (h : Q .normal a w) : wpAnyK P md ops Q F f L a w := by
  cases f with
  | zero => exact ⟨hr, h⟩
  | succ f => exact ⟨fun _ => h, fun i hi => by rw [hr] at hi; cases hi⟩
theorem region_K {id : Nat} {l : List Oper} {a : Act} {w : World} (F : World → Prop) (hm : P.follows .mixedOrders = true) (h : wpAnyK P .any l.toArray Q F l.toArray.size (Array.replicate l.toArray.size false) a w.drew) : (Code.region id l.toArray true).wp P Q a w :=
  wp_region_any hm (wpAny_of_K _ _ _ _ h)
theorem region_KN {id : Nat} {l : List Oper} {a : Act} {w : World} (F : World → Prop) (hm : P.follows .mixedOrders = true) (h : wpAnyK P .any l.toArray (OnlyN Q) F l.toArray.size (Array.replicate l.toArray.size false) a w.drew) : (Code.region id l.toArray true).wp P Q a w := by
  intro b k cs
  obtain ⟨e, a', w', hq, hr⟩ := (region_K F hm h : (Code.region id l.toArray true).wp P (OnlyN Q) a w) b k cs
  exact ⟨e, a', w', by rw [hq.1]; exact hq.2, hr⟩
end
end Go.Proofs.YtfaacmcnefbgcaaGreatDoor.m4
