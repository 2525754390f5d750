/- A range over a function whose iterator keeps its own state in cells: the law for the caller, the contract of the iterator; for whatever program. -/
import Derived.Test.YtkcgnpcfdfkpjaaReg
import Derived.RangeFuncNested
import Derived.RangeFuncBound
import Derived.RangeFuncCalls
import Derived.RangeFuncLeaves
namespace Go.Proofs.Ytkcgnpcfdfkpjaa
open Go Go.RowKit
set_option linter.unusedVariables false
/-- From block B on, what lay before lies as it lay. -/
def Stay (B : Nat) (W W' : World) : Prop := W.heap.size ≤ W'.heap.size ∧ ∀ j, B ≤ j → j < W.heap.size → W'.heap[j]? = W.heap[j]?
theorem Stay.refl (B : Nat) (W : World) : Stay B W W := ⟨Nat.le_refl _, fun _ _ _ => rfl⟩
theorem Stay.trans {B : Nat} {X Y Z : World} (h : Stay B X Y) (k : Stay B Y Z) : Stay B X Z := ⟨Nat.le_trans h.1 k.1, fun j hj hl => (k.2 j hj (Nat.lt_of_lt_of_le hl h.1)).trans (h.2 j hj hl)⟩
theorem Stay.up {B C : Nat} {X Y : World} (h : Stay B X Y) (hc : B ≤ C) : Stay C X Y := ⟨h.1, fun j hj hl => h.2 j (Nat.le_trans hc hj) hl⟩
theorem stay_of_below {B : Nat} {X Y : World} (h : Below X.heap.size X Y) : Stay B X Y := ⟨h.size, fun j _ hl => h.block j hl⟩
theorem stay_put {B : Nat} {X : World} {l : Nat} (o : Obj) (hl : l < B) : Stay B X (X.putObj l o) := ⟨by simp, fun j hj _ => World.putObj_heap_other (by omega)⟩
theorem below_put {B : Nat} {X : World} {l : Nat} (o : Obj) (hl : B ≤ l) : Below B X (X.putObj l o) := ⟨rfl, rfl, rfl, by simp, fun j hj => World.putObj_heap_other (by omega)⟩
/-- An iterator that hands over 'encs 0' to 'encs (N - 1)', in order, as long as it is told to go on. -/
def SeqN (n : Nat) (P : Program) (g : Nat) (lb : Array Value) (encs : Nat → Array Value) (N : Nat) (Pre : World → Prop) : Prop :=
  ∀ (l : Nat) (J : Nat → World → Prop) (Jx : World → Prop) (W : World), Pre W →
    (∀ k A, J k A → Pre A) → (∀ k A A', J k A → Below W.heap.size A A' → J k A') → (∀ A A', Jx A → Below W.heap.size A A' → Jx A') →
    (∀ k W1, J k W1 → k < N → W.heap.size ≤ W1.heap.size → YieldAt Fence.wide (n - 1) P l (encs k) W1 fun e W' =>
      (e = .returned (.bool true) ∧ J (k + 1) W' ∧ Stay W.heap.size W1 W') ∨ (e = .returned (.bool false) ∧ Jx W')) →
    J 0 W →
    CallsIn Fence.wide n P g (#[.func (.yield l) #[] #[]] ++ lb) W fun e W' => (∃ v, e = .returned v) ∧ (J N W' ∨ Jx W')
/-- How a round may be left: off its end, or by a return. -/
def rPost (B : Nat) (I : Nat → World → Prop) (Ix : World → Prop) (k : Nat) (W : World) : Exit → Act → World → Prop
  | .normal, _, W' => Stay B W W' ∧ I (k + 1) W'
  | .ret, _, W' => Stay B W W' ∧ Ix W'
  | _, _, _ => False
theorem range_n {n : Nat} {P : Program} {g : Operand} {ps : Array Tmp} {assign body : Code} {Q : Exit → Act → World → Prop} {a : Act} {w : World}
    (h1 : 1 ≤ n) {gf : Nat} {lb : Array Value} (hg : a.eval g = .func (.func gf) #[] lb) (eg : ∀ args w, (callFunc gf args).run P w = .ok (.enter gf args) w)
    {encs : Nat → Array Value} {N : Nat} {Pre : World → Prop} (hseq : SeqN (n - 1) P gf lb encs N Pre) (hPre : ∀ W, Below w.heap.size w W → Pre W) (hps : ∀ k, (encs k).size = ps.size)
    (I : Nat → World → Prop) (Ix : World → Prop) (hIP : ∀ k A, I k A → Pre A) (hI : ∀ k A A', I k A → Below w.heap.size A A' → I k A') (hIx : ∀ A A', Ix A → Below w.heap.size A A' → Ix A') (h0 : I 0 w)
    (Ax : Nat → Act → World → Prop) (hAx : ∀ k a' A A', Ax k a' A → (∀ j, w.heap.size + 2 ≤ j → A'.heap[j]? = A.heap[j]?) → Ax k a' A')
    (hassign : ∀ (l k : Nat) (W : World) (K : Act → World → Prop), w.heap.size + 2 ≤ W.heap.size → (∀ a' W', Below W.heap.size W W' → Ax k a' W' → K a' W') →
      assign.wpIn (Fence.wide.inRound l) (n - 1 - 1) P (Exit.then K (fun _ _ _ => False)) { tmps := (ps.zip (encs k)).foldl (fun t (p, v) => t.setIfInBounds p v) a.tmps, defers := [] } W)
    (hbody : ∀ (l k : Nat) (a' : Act) (W : World), w.heap.size + 2 ≤ W.heap.size → I k W → Ax k a' W → k < N → body.wpIn (Fence.wide.inRound l) (n - 1 - 1) P (rPost w.heap.size I Ix k W) a' W)
    (hdone : ∀ (D : Nat) (W : World), w.heap.size ≤ D → I N W → W.heap[D]? = some (.deferred (some [])) → Q .normal { a with defers := { target := .collected D, args := #[] } :: a.defers } W)
    (hstop : ∀ (D : Nat) (W : World), w.heap.size ≤ D → Ix W → W.heap[D]? = some (.deferred (some [])) → Code.ret.wpIn Fence.wide n P Q { a with defers := { target := .collected D, args := #[] } :: a.defers } W) :
    (Code.rangeFunc g ps assign body).wpIn Fence.wide n P Q a w := by
  refine wpIn_rangeFunc ?_
  intro fn hfn
  obtain ⟨rc, hrc⟩ : ∃ rc : LoopState → Option Code → Loop, rc = fun st pe => { state := st, pending := pe, fn, tmps := a.tmps, params := ps, assign, body, defers := w.heap.size } := ⟨_, rfl⟩
  obtain ⟨V, hV⟩ : ∃ V, (w.alloc (.deferred (some []))).alloc (.loop (rc .ready none)) = V := ⟨_, rfl⟩
  have hVs : V.heap.size = w.heap.size + 2 := by rw [← hV]; simp
  have hVb : Below w.heap.size w V := by rw [← hV]; exact ((Below.refl _ w).alloc (Nat.le_refl _) _).alloc (by simp) _
  have hL : V.heap[w.heap.size + 1]? = some (.loop (rc .ready none)) := by
    have := World.alloc_heap_new (w.alloc (.deferred (some []))) (.loop (rc .ready none))
    rw [World.size_alloc] at this
    rw [← hV]; exact this
  have hD : V.heap[w.heap.size]? = some (.deferred (some [])) := by
    rw [← hV]; exact (Below.heap_alloc _ _ _ (by simp)).trans (World.alloc_heap_new w _)
  refine ⟨w.heap.size + 1, [{ target := .collected w.heap.size, args := #[] }], V, { target := .fn (.func gf) lb, args := #[.func (.yield (w.heap.size + 1)) #[] #[]] }, V, gf,
    #[.func (.yield (w.heap.size + 1)) #[] #[]] ++ lb, V, ?_, ?_, fun _ _ => trivial, ?_, fun _ => h1, ?_⟩
  · rw [← hV, hrc]; exact run_enterLoop_outer _ _ _ _ _
  · simp only [resolve, hg]; simp [go_sem]
  · simp [invoke, go_sem, eg]
  have up : ∀ {A B : World}, Below V.heap.size A B → Below w.heap.size A B := fun h => h.mono (by omega)
  refine (hseq (w.heap.size + 1)
    (fun k A => I k A ∧ A.heap[w.heap.size + 1]? = some (.loop (rc .ready none)) ∧ A.heap[w.heap.size]? = some (.deferred (some [])))
    (fun A => Ix A ∧ A.heap[w.heap.size + 1]? = some (.loop (rc .done (some .ret))) ∧ A.heap[w.heap.size]? = some (.deferred (some [])))
    V (hPre V hVb)
    (fun k A ⟨x, _, _⟩ => hIP k A x)
    (fun k A B ⟨x, y, z⟩ hb => ⟨hI k A B x (up hb), (hb.block _ (by omega)).trans y, (hb.block _ (by omega)).trans z⟩)
    (fun A B ⟨x, y, z⟩ hb => ⟨hIx A B x (up hb), (hb.block _ (by omega)).trans y, (hb.block _ (by omega)).trans z⟩)
    ?_ ⟨hI 0 w V h0 hVb, hL, hD⟩).mono ?_
  · rintro k W ⟨hi, hl, hd⟩ hlt hBW
    have hsz : w.heap.size + 2 ≤ W.heap.size := by omega
    have hy := run_yield (P := P) (args := encs k) hl (by rw [hrc]; exact hps k)
    rw [hrc] at hy
    refine ⟨fn, _, assign, body, hy, roundIn_of_wpIn hfn (hassign _ k W _ hsz fun a' W' hbW hax => ?_)⟩
    have hl' : W'.heap[w.heap.size + 1]? = some (.loop (rc .ready none)) := (hbW.block _ (by omega)).trans hl
    have hd' : W'.heap[w.heap.size]? = some (.deferred (some [])) := (hbW.block _ (by omega)).trans hd
    have hsz' : w.heap.size + 2 ≤ W'.heap.size := Nat.le_trans hsz hbW.size
    refine ⟨_, run_beginRound hl' (by rw [hrc]), ?_⟩
    obtain ⟨X, hX⟩ : ∃ X, W'.putObj (w.heap.size + 1) (.loop { rc .ready none with state := .busy }) = X := ⟨_, rfl⟩
    rw [hX]
    have hXl : X.heap[w.heap.size + 1]? = some (.loop { rc .ready none with state := .busy }) := by rw [← hX]; exact World.putObj_heap_same (by omega)
    have hXd : X.heap[w.heap.size]? = some (.deferred (some [])) := by rw [← hX]; exact (World.putObj_heap_other (by omega)).trans hd'
    have hXs : X.heap.size = W'.heap.size := by rw [← hX]; simp
    have hXi : I k X := hI k W X hi ((hbW.mono (by omega)).trans (by rw [← hX]; exact below_put _ (by omega)))
    have hXa : Ax k a' X := hAx k a' W' X hax (fun j hj => by rw [← hX]; exact World.putObj_heap_other (by omega))
    have hWX : Stay V.heap.size W X := (stay_of_below hbW).trans (by rw [← hX]; exact stay_put _ (by omega))
    refine wpIn_mono (hbody _ k a' X (by omega) hXi hXa hlt) ?_
    have fin : ∀ (jump : Option Code) (Y : World), Stay w.heap.size X Y →
        (Instr.endRound (w.heap.size + 1) jump).run P Y = .ok (.bool jump.isNone) (Y.putObj (w.heap.size + 1) (.loop (rc (if jump.isNone then .ready else .done) jump))) ∧
        (Y.putObj (w.heap.size + 1) (.loop (rc (if jump.isNone then .ready else .done) jump))).heap[w.heap.size + 1]? = some (.loop (rc (if jump.isNone then .ready else .done) jump)) ∧
        (Y.putObj (w.heap.size + 1) (.loop (rc (if jump.isNone then .ready else .done) jump))).heap[w.heap.size]? = some (.deferred (some [])) := fun jump Y hs => by
      have hYl := (hs.2 (w.heap.size + 1) (by omega) (by omega)).trans hXl
      have hYd := (hs.2 w.heap.size (by omega) (by omega)).trans hXd
      have := run_endRound (P := P) jump hYl
      rw [hrc] at this ⊢
      exact ⟨this, World.putObj_heap_same (Array.getElem?_eq_some_iff.1 hYl).1, (World.putObj_heap_other (by omega)).trans hYd⟩
    rintro e a3 Y hp
    cases e with
    | normal =>
      obtain ⟨hs, hi'⟩ := hp
      obtain ⟨r1, r2, r3⟩ := fin none Y hs
      exact ⟨_, _, r1, .inl ⟨rfl, ⟨hI _ _ _ hi' (below_put _ (by omega)), r2, r3⟩, (hWX.trans (hs.up (by omega))).trans (stay_put _ (by omega))⟩⟩
    | ret =>
      obtain ⟨hs, hi'⟩ := hp
      obtain ⟨r1, r2, r3⟩ := fin (some .ret) Y hs
      exact ⟨_, _, r1, .inr ⟨rfl, hIx _ _ hi' (below_put _ (by omega)), r2, r3⟩⟩
    | exit id => exact hp.elim
    | goto t => exact hp.elim
    | panic ch => exact hp.elim
    | outgrown => exact hp.elim
  · rintro e Y ⟨⟨v, rfl⟩, ⟨hi, hl, hd⟩ | ⟨hi, hl, hd⟩⟩
    · exact ⟨none, _, by have := run_endLoop (P := P) hl (by rw [hrc]; simp); rw [hrc] at this; exact this, hdone _ _ (Nat.le_refl _) (hI _ _ _ hi (below_put _ (by omega))) ((World.putObj_heap_other (by omega)).trans hd)⟩
    · exact ⟨some .ret, _, by have := run_endLoop (P := P) hl (by rw [hrc]; simp); rw [hrc] at this; exact this, hstop _ _ (Nat.le_refl _) (hIx _ _ hi (below_put _ (by omega))) ((World.putObj_heap_other (by omega)).trans hd)⟩
end Go.Proofs.Ytkcgnpcfdfkpjaa
