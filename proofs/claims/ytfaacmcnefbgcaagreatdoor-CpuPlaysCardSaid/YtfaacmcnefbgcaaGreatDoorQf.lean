/- A range over a function whose iterator keeps its own state in cells: the law for the caller, the contract of the iterator; for whatever program. -/
import Derived.Test.YtfaacmcnefbgcaaGreatDoorJc
import Derived.RangeFuncNested
import Derived.RangeFuncBound
import Derived.RangeFuncCalls
import Derived.RangeFuncLeaves
import Derived.Test.YtfaacmcnefbgcaaGreatDoorQe
import Derived.Shelf.Abstract
import Derived.WalkKit
import Derived.OwnWalkIn
import Derived.TacticsInMore
import Derived.LoopNIn
import Derived.LoopIn
namespace Go.Proofs.YtfaacmcnefbgcaaGreatDoor.m4
open Go Go.RowKit
set_option linter.unusedVariables false
/-- From block B on, what lay before lies as it lay. -/
def Stay (B : Nat) (W W' : World) : Prop := W.heap.size ≤ W'.heap.size ∧ ∀ j, B ≤ j → j < W.heap.size → W'.heap[j]? = W.heap[j]?
theorem Stay.refl (B : Nat) (W : World) : Stay B W W := ⟨Nat.le_refl _, fun _ _ _ => rfl⟩
theorem Stay.trans {B : Nat} {X Y Z : World} (h : Stay B X Y) (k : Stay B Y Z) : Stay B X Z := ⟨Nat.le_trans h.1 k.1, fun j hj hl => (k.2 j hj (Nat.lt_of_lt_of_le hl h.1)).trans (h.2 j hj hl)⟩
theorem Stay.up {B C : Nat} {X Y : World} (h : Stay B X Y) (hc : B ≤ C) : Stay C X Y := ⟨h.1, fun j hj hl => h.2 j (Nat.le_trans hc hj) hl⟩
theorem stay_of_below {B : Nat} {X Y : World} (h : Below X.heap.size X Y) : Stay B X Y := ⟨h.size, fun j _ hl => h.block j hl⟩
theorem stay_put {B : Nat} {X : World} {l : Nat} (o : Obj) (hl : l < B) : Stay B X (X.putObj l o) := ⟨by simp, fun j hj _ => World.putObj_heap_other (by omega)⟩
theorem below_put {B : Nat} {X : World} {l : Nat} (o : Obj) (hl : B ≤ l) : Below B X (X.putObj l o) := ⟨rfl, rfl, rfl, by simp, fun j hj => World.putObj_heap_other (by omega)⟩
/-- An iterator that hands over 'encs 0' to 'encs (N - 1)', in order, as long as it is told to go on. -/
def SeqN (n : Nat) (P : Program) (g : Nat) (lb : Array Value) (encs : Nat → Array Value) (N : Nat) (Pre : World → Prop) : Prop :=
  ∀ (l : Nat) (J : Nat → World → Prop) (Jx : World → Prop) (W : World), Pre W →
    (∀ k A, J k A → Pre A) → (∀ k A A', J k A → Below W.heap.size A A' → J k A') → (∀ A A', Jx A → Below W.heap.size A A' → Jx A') →
    (∀ k W1, J k W1 → k < N → W.heap.size ≤ W1.heap.size → YieldAt Fence.wide (n - 1) P l (encs k) W1 fun e W' =>
      (e = .returned (.bool true) ∧ J (k + 1) W' ∧ Stay W.heap.size W1 W') ∨ (e = .returned (.bool false) ∧ Jx W')) →
    J 0 W →
    CallsIn Fence.wide n P g (#[.func (.yield l) #[] #[]] ++ lb) W fun e W' => (∃ v, e = .returned v) ∧ (J N W' ∨ Jx W')
/-- How a round may be left: off its end, or by a return. -/
def rPost (B : Nat) (I : Nat → World → Prop) (Ix : World → Prop) (k : Nat) (W : World) : Exit → Act → World → Prop
  | .normal, _, W' => Stay B W W' ∧ I (k + 1) W'
  | .ret, _, W' => Stay B W W' ∧ Ix W'
  | _, _, _ => False
theorem range_n {n : Nat} {P : Program} {g : Operand} {ps : Array Tmp} {assign body : Code} {Q : Exit → Act → World → Prop} {a : Act} {w : World}
    (h1 : 1 ≤ n) {gf : Nat} {lb : Array Value} (hg : a.eval g = .func (.func gf) #[] lb) (eg : ∀ args w, (callFunc gf args).run P w = .ok (.enter gf args) w)
    {encs : Nat → Array Value} {N : Nat} {Pre : World → Prop} (hseq : SeqN (n - 1) P gf lb encs N Pre) (hPre : ∀ W, Below w.heap.size w W → Pre W) (hps : ∀ k, (encs k).size = ps.size)
    (I : Nat → World → Prop) (Ix : World → Prop) (hIP : ∀ k A, I k A → Pre A) (hI : ∀ k A A', I k A → Below w.heap.size A A' → I k A') (hIx : ∀ A A', Ix A → Below w.heap.size A A' → Ix A') (h0 : I 0 w)
    (Ax : Nat → Act → World → Prop) (hAx : ∀ k a' A A', Ax k a' A → (∀ j, w.heap.size + 2 ≤ j → A'.heap[j]? = A.heap[j]?) → Ax k a' A')
    (hassign : ∀ (l k : Nat) (W : World) (K : Act → World → Prop), w.heap.size + 2 ≤ W.heap.size → (∀ a' W', Below W.heap.size W W' → Ax k a' W' → K a' W') →
      assign.wpIn (Fence.wide.inRound l) (n - 1 - 1) P (Exit.then K (fun _ _ _ => False)) { tmps := (ps.zip (encs k)).foldl (fun t (p, v) => t.setIfInBounds p v) a.tmps, defers := [] } W)
    (hbody : ∀ (l k : Nat) (a' : Act) (W : World), w.heap.size + 2 ≤ W.heap.size → I k W → Ax k a' W → k < N → body.wpIn (Fence.wide.inRound l) (n - 1 - 1) P (rPost w.heap.size I Ix k W) a' W)
    (hdone : ∀ (D : Nat) (W : World), w.heap.size ≤ D → I N W → W.heap[D]? = some (.deferred (some [])) → Q .normal { a with defers := { target := .collected D, args := #[] } :: a.defers } W)
    (hstop : ∀ (D : Nat) (W : World), w.heap.size ≤ D → Ix W → W.heap[D]? = some (.deferred (some [])) → Code.ret.wpIn Fence.wide n P Q { a with defers := { target := .collected D, args := #[] } :: a.defers } W) :
    (Code.rangeFunc g ps assign body).wpIn Fence.wide n P Q a w := by
  refine wpIn_rangeFunc ?_
  intro fn hfn
  obtain ⟨rc, hrc⟩ : ∃ rc : LoopState → Option Code → Loop, rc = fun st pe => { state := st, pending := pe, fn, tmps := a.tmps, params := ps, assign, body, defers := w.heap.size } := ⟨_, rfl⟩
  obtain ⟨V, hV⟩ : ∃ V, (w.alloc (.deferred (some []))).alloc (.loop (rc .ready none)) = V := ⟨_, rfl⟩
  have hVs : V.heap.size = w.heap.size + 2 := by rw [← hV]; simp
  have hVb : Below w.heap.size w V := by rw [← hV]; exact ((Below.refl _ w).alloc (Nat.le_refl _) _).alloc (by simp) _
  have hL : V.heap[w.heap.size + 1]? = some (.loop (rc .ready none)) := by
    have := World.alloc_heap_new (w.alloc (.deferred (some []))) (.loop (rc .ready none))
    rw [World.size_alloc] at this
    rw [← hV]; exact this
  have hD : V.heap[w.heap.size]? = some (.deferred (some [])) := by
    rw [← hV]; exact (Below.heap_alloc _ _ _ (by simp)).trans (World.alloc_heap_new w _)
  refine ⟨w.heap.size + 1, [{ target := .collected w.heap.size, args := #[] }], V, { target := .fn (.func gf) lb, args := #[.func (.yield (w.heap.size + 1)) #[] #[]] }, V, gf,
    #[.func (.yield (w.heap.size + 1)) #[] #[]] ++ lb, V, ?_, ?_, fun _ _ => trivial, ?_, fun _ => h1, ?_⟩
  · rw [← hV, hrc]; exact run_enterLoop_outer _ _ _ _ _
  · simp only [resolve, hg]; simp [go_sem]
  · simp [invoke, go_sem, eg]
  have up : ∀ {A B : World}, Below V.heap.size A B → Below w.heap.size A B := fun h => h.mono (by omega)
  refine (hseq (w.heap.size + 1)
    (fun k A => I k A ∧ A.heap[w.heap.size + 1]? = some (.loop (rc .ready none)) ∧ A.heap[w.heap.size]? = some (.deferred (some [])))
    (fun A => Ix A ∧ A.heap[w.heap.size + 1]? = some (.loop (rc .done (some .ret))) ∧ A.heap[w.heap.size]? = some (.deferred (some [])))
    V (hPre V hVb)
    (fun k A ⟨x, _, _⟩ => hIP k A x)
    (fun k A B ⟨x, y, z⟩ hb => ⟨hI k A B x (up hb), (hb.block _ (by omega)).trans y, (hb.block _ (by omega)).trans z⟩)
    (fun A B ⟨x, y, z⟩ hb => ⟨hIx A B x (up hb), (hb.block _ (by omega)).trans y, (hb.block _ (by omega)).trans z⟩)
    ?_ ⟨hI 0 w V h0 hVb, hL, hD⟩).mono ?_
  · rintro k W ⟨hi, hl, hd⟩ hlt hBW
    have hsz : w.heap.size + 2 ≤ W.heap.size := by omega
    have hy := run_yield (P := P) (args := encs k) hl (by rw [hrc]; exact hps k)
    rw [hrc] at hy
    refine ⟨fn, _, assign, body, hy, roundIn_of_wpIn hfn (hassign _ k W _ hsz fun a' W' hbW hax => ?_)⟩
    have hl' : W'.heap[w.heap.size + 1]? = some (.loop (rc .ready none)) := (hbW.block _ (by omega)).trans hl
    have hd' : W'.heap[w.heap.size]? = some (.deferred (some [])) := (hbW.block _ (by omega)).trans hd
    have hsz' : w.heap.size + 2 ≤ W'.heap.size := Nat.le_trans hsz hbW.size
    refine ⟨_, run_beginRound hl' (by rw [hrc]), ?_⟩
    obtain ⟨X, hX⟩ : ∃ X, W'.putObj (w.heap.size + 1) (.loop { rc .ready none with state := .busy }) = X := ⟨_, rfl⟩
    rw [hX]
    have hXl : X.heap[w.heap.size + 1]? = some (.loop { rc .ready none with state := .busy }) := by rw [← hX]; exact World.putObj_heap_same (by omega)
    have hXd : X.heap[w.heap.size]? = some (.deferred (some [])) := by rw [← hX]; exact (World.putObj_heap_other (by omega)).trans hd'
    have hXs : X.heap.size = W'.heap.size := by rw [← hX]; simp
    have hXi : I k X := hI k W X hi ((hbW.mono (by omega)).trans (by rw [← hX]; exact below_put _ (by omega)))
    have hXa : Ax k a' X := hAx k a' W' X hax (fun j hj => by rw [← hX]; exact World.putObj_heap_other (by omega))
    have hWX : Stay V.heap.size W X := (stay_of_below hbW).trans (by rw [← hX]; exact stay_put _ (by omega))
    refine wpIn_mono (hbody _ k a' X (by omega) hXi hXa hlt) ?_
    have fin : ∀ (jump : Option Code) (Y : World), Stay w.heap.size X Y →
        (Instr.endRound (w.heap.size + 1) jump).run P Y = .ok (.bool jump.isNone) (Y.putObj (w.heap.size + 1) (.loop (rc (if jump.isNone then .ready else .done) jump))) ∧
        (Y.putObj (w.heap.size + 1) (.loop (rc (if jump.isNone then .ready else .done) jump))).heap[w.heap.size + 1]? = some (.loop (rc (if jump.isNone then .ready else .done) jump)) ∧
        (Y.putObj (w.heap.size + 1) (.loop (rc (if jump.isNone then .ready else .done) jump))).heap[w.heap.size]? = some (.deferred (some [])) := fun jump Y hs => by
      have hYl := (hs.2 (w.heap.size + 1) (by omega) (by omega)).trans hXl
      have hYd := (hs.2 w.heap.size (by omega) (by omega)).trans hXd
      have := run_endRound (P := P) jump hYl
      rw [hrc] at this ⊢
      exact ⟨this, World.putObj_heap_same (Array.getElem?_eq_some_iff.1 hYl).1, (World.putObj_heap_other (by omega)).trans hYd⟩
    rintro e a3 Y hp
    cases e with
    | normal =>
      obtain ⟨hs, hi'⟩ := hp
      obtain ⟨r1, r2, r3⟩ := fin none Y hs
      exact ⟨_, _, r1, .inl ⟨rfl, ⟨hI _ _ _ hi' (below_put _ (by omega)), r2, r3⟩, (hWX.trans (hs.up (by omega))).trans (stay_put _ (by omega))⟩⟩
    | ret =>
      obtain ⟨hs, hi'⟩ := hp
      obtain ⟨r1, r2, r3⟩ := fin (some .ret) Y hs
      exact ⟨_, _, r1, .inr ⟨rfl, hIx _ _ hi' (below_put _ (by omega)), r2, r3⟩⟩
    | exit id => exact hp.elim
    | goto t => exact hp.elim
    | panic ch => exact hp.elim
    | outgrown => exact hp.elim
  · rintro e Y ⟨⟨v, rfl⟩, ⟨hi, hl, hd⟩ | ⟨hi, hl, hd⟩⟩
    · exact ⟨none, _, by have := run_endLoop (P := P) hl (by rw [hrc]; simp); rw [hrc] at this; exact this, hdone _ _ (Nat.le_refl _) (hI _ _ _ hi (below_put _ (by omega))) ((World.putObj_heap_other (by omega)).trans hd)⟩
    · exact ⟨some .ret, _, by have := run_endLoop (P := P) hl (by rw [hrc]; simp); rw [hrc] at this; exact this, hstop _ _ (Nat.le_refl _) (hIx _ _ hi (below_put _ (by omega))) ((World.putObj_heap_other (by omega)).trans hd)⟩
end Go.Proofs.YtfaacmcnefbgcaaGreatDoor.m4

/- Contracts of Mem.holders and of its iterator. -/
namespace Go.Proofs.YtfaacmcnefbgcaaGreatDoor.m4
open Go.ChangeShapes Go.WideShapes Go.ChangeAt Go.RowKit
set_option linter.unusedVariables false
theorem hold_any (v : Value) (hv : v.oneCell' = true) (p n : Nat) (w : World) : Calls Tryz.prog 85 #[v, .int .u64 p, .int .u64 n] w fun e w' => e = .returned (.func (.func 110) #[] #[.pointer (some ⟨w.heap.size, 0, none⟩), .pointer (some ⟨w.heap.size + 1, 0, none⟩), .pointer (some ⟨w.heap.size + 1 + 1, 0, none⟩)]) ∧ w' = ((w.alloc (.cells #[v] 30)).alloc (.cells #[.int .u64 p] 39)).alloc (.cells #[.int .u64 n] 39) := by
  go_enter Tryz.func85, Tryz.ntmps85
  go_wp2
  go_ret
  exact ⟨rfl, rfl⟩
def inL (l : List Rg) : Prop := ∀ i < l.length, (rg l i).f + (rg l i).s < 18446744073709551616
/-- At most one region holds the stretch: the one, or none. -/
def Hit (l : List Rg) (p n : Nat) (N i : Nat) : Prop := (N = 1 ∧ i < l.length ∧ (rg l i).has p n ∧ ∀ j < l.length, j ≠ i → ¬ (rg l j).has p n) ∨ (N = 0 ∧ ∀ j < l.length, ¬ (rg l j).has p n)
def cnt (N i k : Nat) : Nat := if N = 1 ∧ i < k then 1 else 0
def Bx (W : World) (x : Mm) (b p n : Nat) : Prop := W.cell? ⟨b, 0, none⟩ = some (.pointer (some ⟨x.mb, 0, none⟩)) ∧ W.cell? ⟨b + 1, 0, none⟩ = some (.int .u64 p) ∧ W.cell? ⟨b + 1 + 1, 0, none⟩ = some (.int .u64 n) ∧ Ar W x
set_option maxHeartbeats 1000000 in
theorem hold_seq (x : Mm) (hx : wfL x.l) (hin : inL x.l) (hl : x.l.length ≤ 16) (p n : Nat) (hp : p < 18446744073709551616) (hn : n < 18446744073709551616) (b N i : Nat) (hN : Hit x.l p n N i) (d : Nat) (hd : 1 ≤ d) :
    SeqN d Tryz.prog 110 #[.pointer (some ⟨b, 0, none⟩), .pointer (some ⟨b + 1, 0, none⟩), .pointer (some ⟨b + 1 + 1, 0, none⟩)] (fun _ => #[arC x i]) N (fun W => Bx W x b p n) := by
  intro l J Jx W ⟨hb0, hb1, hb2, hA⟩ hJP hJ hJx hY h0
  have hsz := World.block_lt_of_cell? W _ hb0
  refine callsIn_of_wp Tryz.func110 rfl trivial ?_
  simp only [Tryz.ntmps110, List.size_toArray, List.length_cons, List.length_nil, Nat.reduceAdd, Nat.reduceSub, Array.replicate_succ, Array.replicate_zero, List.push_toArray, List.append_toArray, List.nil_append, List.cons_append]
  have hm0 := hA.1
  gi_wp2
  gi_loopw [12] (fun iv wr => ∃ k : Nat, iv = .int .i64 k ∧ k ≤ x.l.length ∧ J (cnt N i k) wr ∧ W.heap.size ≤ wr.heap.size) (fun iv _ => x.l.length - (intOf iv).toNat)
  case atStart => exact ⟨0, rfl, Nat.zero_le _, by unfold cnt; rw [if_neg (by omega)]; exact h0, Nat.le_refl _⟩
  case round =>
    obtain ⟨k, rfl, hk, hj, hbs⟩ := hrel
    obtain ⟨q0, q1, q2, qA⟩ := hJP _ _ hj
    by_cases hlt : k < x.l.length
    · obtain ⟨⟨c0, c1, c2⟩, c3, c4⟩ := qA.2 k hlt
      have hH := has_any (rg x.l k) (hx k) (hin k hlt) (some ⟨x.vb, beg x.l k, none⟩) (some ⟨x.tb, beg x.l k, none⟩) (rg x.l k).s (rg x.l k).s (rg x.l k).s (rg x.l k).s p n hp hn
      have habs := World.block_lt_of_cell? wr _ c0
      have hq1s := World.block_lt_of_cell? wr _ q1
      have hq2s := World.block_lt_of_cell? wr _ q2
      have hms := World.block_lt_of_cell? wr _ qA.1
      simp only at habs hq1s hq2s hms
      obtain ⟨wa, hwa⟩ : ∃ wa, wr.alloc (.cells #[.int .u64 (rg x.l k).f, .int .u64 (rg x.l k).s, .int .u8 (rg x.l k).k, .slice (some ⟨x.vb, beg x.l k, none⟩) (rg x.l k).s (rg x.l k).s, .slice (some ⟨x.tb, beg x.l k, none⟩) (rg x.l k).s (rg x.l k).s] 119) = wa := ⟨_, rfl⟩
      have hBa : Below wr.heap.size wr wa := by rw [← hwa]; exact aBelow (Below.refl _ _) _
      have a0 : wa.cell? ⟨wr.heap.size, 0, none⟩ = some (.int .u64 (rg x.l k).f) := by rw [← hwa]; exact nwc _ _ _ _
      have a1 : wa.cell? ⟨wr.heap.size, 1, none⟩ = some (.int .u64 (rg x.l k).s) := by rw [← hwa]; exact nwc _ _ _ _
      have a2 : wa.cell? ⟨wr.heap.size, 2, none⟩ = some (.int .u8 (rg x.l k).k) := by rw [← hwa]; exact nwc _ _ _ _
      have a3 : wa.cell? ⟨wr.heap.size, 3, none⟩ = some (.slice (some ⟨x.vb, beg x.l k, none⟩) (rg x.l k).s (rg x.l k).s) := by rw [← hwa]; exact nwc _ _ _ _
      have a4 : wa.cell? ⟨wr.heap.size, 4, none⟩ = some (.slice (some ⟨x.tb, beg x.l k, none⟩) (rg x.l k).s (rg x.l k).s) := by rw [← hwa]; exact nwc _ _ _ _
      have r0 := stay hBa q0
      have r1 := stay hBa q1
      have r2 := stay hBa q2
      have hja := hJ _ _ _ hj (hBa.mono hbs)
      by_cases hk1 : (rg x.l k).has p n
      · have hNk : N = 1 ∧ i = k := by
          rcases hN with ⟨h1, h2, h3, h4⟩ | ⟨h1, h2⟩
          · refine ⟨h1, ?_⟩
            by_cases e : k = i
            · exact e.symm
            · exact absurd hk1 (h4 k hlt e)
          · exact absurd hk1 (h2 k hlt)
        obtain ⟨rfl, rfl⟩ := hNk
        have hH' : Calls Tryz.prog 111 #[.agg #[.int .u64 (rg x.l i).f, .int .u64 (rg x.l i).s, .int .u8 (rg x.l i).k, .slice (some ⟨x.vb, beg x.l i, none⟩) (rg x.l i).s (rg x.l i).s, .slice (some ⟨x.tb, beg x.l i, none⟩) (rg x.l i).s (rg x.l i).s], .int .u64 p, .int .u64 n] wa fun e w' => e = .returned (.bool true) ∧ Below wa.heap.size wa w' := (hH wa).mono fun e w' ⟨⟨r, he, hr⟩, hb⟩ => ⟨by rw [he, hr.2 hk1], hb⟩
        have hc0 : cnt 1 i i = 0 := by unfold cnt; rw [if_neg (by omega)]
        have hc1 : cnt 1 i (i + 1) = 0 + 1 := by unfold cnt; rw [if_pos (by omega)]
        rw [hc0] at hja
        gi_wp2_with (refine ⟨trivial, ?_⟩; gi_at_call 111; refine (callsIn_wide.2 hH').mono ?_; (rintro e w1 ⟨rfl, hb1⟩); have b0 := stay hb1 a0; have b1 := stay hb1 a1; have b2 := stay hb1 a2; have b3 := stay hb1 a3; have b4 := stay hb1 a4; obtain ⟨fn, tmps, assign, body, hy, hR⟩ := hY 0 w1 (hJ _ _ _ hja (hb1.mono (Nat.le_trans hbs hBa.size))) (by omega) (Nat.le_trans hbs (Nat.le_trans hBa.size hb1.size)); simp only [arC] at hy)
        refine hR.mono ?_
        rintro e W3 (⟨rfl, hj3, hs3⟩ | ⟨rfl, hx3⟩)
        · gi_wp2
          go_roundw
          case rel => exact ⟨i + 1, by go_num, by omega, by rw [hc1]; exact hj3, by have h1 := hs3.1; have h2 := hb1.size; have h3 := hBa.size; omega⟩
          case measure => first | (simp [intOf]; done) | (simp [intOf]; omega)
        · gi_wp2
          refine bodyPost_ret (results_none rfl _ _ _) rfl ?_
          exact ⟨⟨_, rfl⟩, .inr hx3⟩
      · have hH' : Calls Tryz.prog 111 #[.agg #[.int .u64 (rg x.l k).f, .int .u64 (rg x.l k).s, .int .u8 (rg x.l k).k, .slice (some ⟨x.vb, beg x.l k, none⟩) (rg x.l k).s (rg x.l k).s, .slice (some ⟨x.tb, beg x.l k, none⟩) (rg x.l k).s (rg x.l k).s], .int .u64 p, .int .u64 n] wa fun e w' => e = .returned (.bool false) ∧ Below wa.heap.size wa w' := (hH wa).mono fun e w' ⟨⟨r, he, hr⟩, hb⟩ => ⟨by rw [he, Bool.eq_false_iff.2 (fun h => hk1 (hr.1 h))], hb⟩
        have hc1 : cnt N i (k + 1) = cnt N i k := by
          unfold cnt
          by_cases e : N = 1 ∧ i < k
          · rw [if_pos e, if_pos ⟨e.1, by omega⟩]
          · rw [if_neg e, if_neg]
            rintro ⟨h1, h2⟩
            have hik : i = k := by omega
            rcases hN with ⟨_, h3, h4, _⟩ | ⟨h3, _⟩
            · rw [hik] at h4; exact hk1 h4
            · omega
        gi_wp2_with (refine ⟨trivial, ?_⟩; gi_at_call 111; refine (callsIn_wide.2 hH').mono ?_; (rintro e w1 ⟨rfl, hb1⟩))
        refine ⟨fun f h => (by cases h), ?_⟩
        gi_wp2
        go_roundw
        case rel => exact ⟨k + 1, by go_num, by omega, by rw [hc1]; exact hJ _ _ _ hja (hb1.mono (Nat.le_trans hbs hBa.size)), by have h2 := hb1.size; have h3 := hBa.size; omega⟩
        case measure => first | (simp [intOf]; done) | (simp [intOf]; omega)
    · obtain rfl : k = x.l.length := by omega
      gi_wp2
      go_end0
      exact ⟨⟨_, rfl⟩, .inl (by
        rcases hN with ⟨h1, h2, _, _⟩ | ⟨h1, _⟩
        · subst h1; have : cnt 1 i x.l.length = 1 := by unfold cnt; rw [if_pos ⟨rfl, h2⟩]
          rw [this] at hj; exact hj
        · subst h1; have : cnt 0 i x.l.length = 0 := by unfold cnt; rw [if_neg (by omega)]
          rw [this] at hj; exact hj)⟩
end Go.Proofs.YtfaacmcnefbgcaaGreatDoor.m4
