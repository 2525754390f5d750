/- A range over a function whose iterator keeps its own state in cells: the law for the caller, the contract of the iterator; for whatever program. -/
import Derived.Test.YtcckgfablfgknaaGreatDoorReg
import Derived.RangeFuncNested
import Derived.RangeFuncBound
import Derived.RangeFuncCalls
import Derived.RangeFuncLeaves
import Derived.Test.YtcckgfablfgknaaGreatDoorQt
import Derived.Shelf.Abstract
import Derived.Shelf.RegionOpen
import Derived.WalkKit
import Derived.OwnWalkIn
import Derived.TacticsInMore
import Derived.LoopNIn
import Derived.LoopIn
namespace Go.Proofs.YtcckgfablfgknaaGreatDoor
open Go Go.RowKit
set_option linter.unusedVariables false
/-- From block B on, what lay before lies as it lay. -/
def Stay (B : Nat) (W W' : World) : Prop := W.heap.size ≤ W'.heap.size ∧ ∀ j, B ≤ j → j < W.heap.size → W'.heap[j]? = W.heap[j]?
theorem Stay.refl (B : Nat) (W : World) : Stay B W W := ⟨Nat.le_refl _, fun _ _ _ => rfl⟩
theorem Stay.trans {B : Nat} {X Y Z : World} (h : Stay B X Y) (k : Stay B Y Z) : Stay B X Z := ⟨Nat.le_trans h.1 k.1, fun j hj hl => (k.2 j hj (Nat.lt_of_lt_of_le hl h.1)).trans (h.2 j hj hl)⟩
theorem Stay.up {B C : Nat} {X Y : World} (h : Stay B X Y) (hc : B ≤ C) : Stay C X Y := ⟨h.1, fun j hj hl => h.2 j (Nat.le_trans hc hj) hl⟩
theorem stay_of_below {B : Nat} {X Y : World} (h : Below X.heap.size X Y) : Stay B X Y := ⟨h.size, fun j _ hl => h.block j hl⟩
theorem stay_put {B : Nat} {X : World} {l : Nat} (o : Obj) (hl : l < B) : Stay B X (X.putObj l o) := ⟨by simp, fun j hj _ => World.putObj_heap_other (by omega)⟩
theorem below_put {B : Nat} {X : World} {l : Nat} (o : Obj) (hl : B ≤ l) : Below B X (X.putObj l o) := ⟨rfl, rfl, rfl, by simp, fun j hj => World.putObj_heap_other (by omega)⟩
/-- An iterator that hands over 'encs 0' to 'encs (N - 1)', in order, as long as it is told to go on. -/
def SeqN (n : Nat) (P : Program) (g : Nat) (lb : Array Value) (encs : Nat → Array Value) (N : Nat) (Pre : World → Prop) : Prop :=
  ∀ (l : Nat) (J : Nat → World → Prop) (Jx : World → Prop) (W : World), Pre W →
    (∀ k A A', J k A → Below W.heap.size A A' → J k A') → (∀ A A', Jx A → Below W.heap.size A A' → Jx A') →
    (∀ k W1, J k W1 → k < N → W.heap.size ≤ W1.heap.size → YieldAt Fence.wide (n - 1) P l (encs k) W1 fun e W' =>
      (e = .returned (.bool true) ∧ J (k + 1) W' ∧ Stay W.heap.size W1 W') ∨ (e = .returned (.bool false) ∧ Jx W')) →
    J 0 W →
    CallsIn Fence.wide n P g (#[.func (.yield l) #[] #[]] ++ lb) W fun e W' => (∃ v, e = .returned v) ∧ (J N W' ∨ Jx W')
/-- How a round may be left: off its end, or by a return. -/
def rPost (B : Nat) (I : Nat → World → Prop) (Ix : World → Prop) (k : Nat) (W : World) : Exit → Act → World → Prop
  | .normal, _, W' => Stay B W W' ∧ I (k + 1) W'
  | .ret, _, W' => Stay B W W' ∧ Ix W'
  | _, _, _ => False
theorem range_n {n : Nat} {P : Program} {g : Operand} {ps : Array Tmp} {assign body : Code} {Q : Exit → Act → World → Prop} {a : Act} {w : World}
    (h1 : 1 ≤ n) {gf : Nat} {lb : Array Value} (hg : a.eval g = .func (.func gf) #[] lb) (eg : ∀ args w, (callFunc gf args).run P w = .ok (.enter gf args) w)
    {encs : Nat → Array Value} {N : Nat} {Pre : World → Prop} (hseq : SeqN (n - 1) P gf lb encs N Pre) (hPre : ∀ W, Below w.heap.size w W → Pre W) (hps : ∀ k, (encs k).size = ps.size)
    (I : Nat → World → Prop) (Ix : World → Prop) (hI : ∀ k A A', I k A → Below w.heap.size A A' → I k A') (hIx : ∀ A A', Ix A → Below w.heap.size A A' → Ix A') (h0 : I 0 w)
    (Ax : Nat → Act → World → Prop) (hAx : ∀ k a' A A', Ax k a' A → (∀ j, w.heap.size + 2 ≤ j → A'.heap[j]? = A.heap[j]?) → Ax k a' A')
    (hassign : ∀ (l k : Nat) (W : World) (K : Act → World → Prop), w.heap.size + 2 ≤ W.heap.size → (∀ a' W', Below W.heap.size W W' → Ax k a' W' → K a' W') →
      assign.wpIn (Fence.wide.inRound l) (n - 1 - 1) P (Exit.then K (fun _ _ _ => False)) { tmps := (ps.zip (encs k)).foldl (fun t (p, v) => t.setIfInBounds p v) a.tmps, defers := [] } W)
    (hbody : ∀ (l k : Nat) (a' : Act) (W : World), w.heap.size + 2 ≤ W.heap.size → I k W → Ax k a' W → k < N → body.wpIn (Fence.wide.inRound l) (n - 1 - 1) P (rPost w.heap.size I Ix k W) a' W)
    (hdone : ∀ (D : Nat) (W : World), w.heap.size ≤ D → I N W → W.heap[D]? = some (.deferred (some [])) → Q .normal { a with defers := { target := .collected D, args := #[] } :: a.defers } W)
    (hstop : ∀ (D : Nat) (W : World), w.heap.size ≤ D → Ix W → W.heap[D]? = some (.deferred (some [])) → Code.ret.wpIn Fence.wide n P Q { a with defers := { target := .collected D, args := #[] } :: a.defers } W) :
    (Code.rangeFunc g ps assign body).wpIn Fence.wide n P Q a w := by
  refine wpIn_rangeFunc ?_
  intro fn hfn
  obtain ⟨rc, hrc⟩ : ∃ rc : LoopState → Option Code → Loop, rc = fun st pe => { state := st, pending := pe, fn, tmps := a.tmps, params := ps, assign, body, defers := w.heap.size } := ⟨_, rfl⟩
  obtain ⟨V, hV⟩ : ∃ V, (w.alloc (.deferred (some []))).alloc (.loop (rc .ready none)) = V := ⟨_, rfl⟩
  have hVs : V.heap.size = w.heap.size + 2 := by rw [← hV]; simp
  have hVb : Below w.heap.size w V := by rw [← hV]; exact ((Below.refl _ w).alloc (Nat.le_refl _) _).alloc (by simp) _
  have hL : V.heap[w.heap.size + 1]? = some (.loop (rc .ready none)) := by
    have := World.alloc_heap_new (w.alloc (.deferred (some []))) (.loop (rc .ready none))
    rw [World.size_alloc] at this
    rw [← hV]; exact this
  have hD : V.heap[w.heap.size]? = some (.deferred (some [])) := by
    rw [← hV]; exact (Below.heap_alloc _ _ _ (by simp)).trans (World.alloc_heap_new w _)
  refine ⟨w.heap.size + 1, [{ target := .collected w.heap.size, args := #[] }], V, { target := .fn (.func gf) lb, args := #[.func (.yield (w.heap.size + 1)) #[] #[]] }, V, gf,
    #[.func (.yield (w.heap.size + 1)) #[] #[]] ++ lb, V, ?_, ?_, fun _ _ => trivial, ?_, fun _ => h1, ?_⟩
  · rw [← hV, hrc]; exact run_enterLoop_outer _ _ _ _ _
  · simp only [resolve, hg]; simp [go_sem]
  · simp [invoke, go_sem, eg]
  have up : ∀ {A B : World}, Below V.heap.size A B → Below w.heap.size A B := fun h => h.mono (by omega)
  refine (hseq (w.heap.size + 1)
    (fun k A => I k A ∧ A.heap[w.heap.size + 1]? = some (.loop (rc .ready none)) ∧ A.heap[w.heap.size]? = some (.deferred (some [])))
    (fun A => Ix A ∧ A.heap[w.heap.size + 1]? = some (.loop (rc .done (some .ret))) ∧ A.heap[w.heap.size]? = some (.deferred (some [])))
    V (hPre V hVb)
    (fun k A B ⟨x, y, z⟩ hb => ⟨hI k A B x (up hb), (hb.block _ (by omega)).trans y, (hb.block _ (by omega)).trans z⟩)
    (fun A B ⟨x, y, z⟩ hb => ⟨hIx A B x (up hb), (hb.block _ (by omega)).trans y, (hb.block _ (by omega)).trans z⟩)
    ?_ ⟨hI 0 w V h0 hVb, hL, hD⟩).mono ?_
  · rintro k W ⟨hi, hl, hd⟩ hlt hBW
    have hsz : w.heap.size + 2 ≤ W.heap.size := by omega
    have hy := run_yield (P := P) (args := encs k) hl (by rw [hrc]; exact hps k)
    rw [hrc] at hy
    refine ⟨fn, _, assign, body, hy, roundIn_of_wpIn hfn (hassign _ k W _ hsz fun a' W' hbW hax => ?_)⟩
    have hl' : W'.heap[w.heap.size + 1]? = some (.loop (rc .ready none)) := (hbW.block _ (by omega)).trans hl
    have hd' : W'.heap[w.heap.size]? = some (.deferred (some [])) := (hbW.block _ (by omega)).trans hd
    have hsz' : w.heap.size + 2 ≤ W'.heap.size := Nat.le_trans hsz hbW.size
    refine ⟨_, run_beginRound hl' (by rw [hrc]), ?_⟩
    obtain ⟨X, hX⟩ : ∃ X, W'.putObj (w.heap.size + 1) (.loop { rc .ready none with state := .busy }) = X := ⟨_, rfl⟩
    rw [hX]
    have hXl : X.heap[w.heap.size + 1]? = some (.loop { rc .ready none with state := .busy }) := by rw [← hX]; exact World.putObj_heap_same (by omega)
    have hXd : X.heap[w.heap.size]? = some (.deferred (some [])) := by rw [← hX]; exact (World.putObj_heap_other (by omega)).trans hd'
    have hXs : X.heap.size = W'.heap.size := by rw [← hX]; simp
    have hXi : I k X := hI k W X hi ((hbW.mono (by omega)).trans (by rw [← hX]; exact below_put _ (by omega)))
    have hXa : Ax k a' X := hAx k a' W' X hax (fun j hj => by rw [← hX]; exact World.putObj_heap_other (by omega))
    have hWX : Stay V.heap.size W X := (stay_of_below hbW).trans (by rw [← hX]; exact stay_put _ (by omega))
    refine wpIn_mono (hbody _ k a' X (by omega) hXi hXa hlt) ?_
    have fin : ∀ (jump : Option Code) (Y : World), Stay w.heap.size X Y →
        (Instr.endRound (w.heap.size + 1) jump).run P Y = .ok (.bool jump.isNone) (Y.putObj (w.heap.size + 1) (.loop (rc (if jump.isNone then .ready else .done) jump))) ∧
        (Y.putObj (w.heap.size + 1) (.loop (rc (if jump.isNone then .ready else .done) jump))).heap[w.heap.size + 1]? = some (.loop (rc (if jump.isNone then .ready else .done) jump)) ∧
        (Y.putObj (w.heap.size + 1) (.loop (rc (if jump.isNone then .ready else .done) jump))).heap[w.heap.size]? = some (.deferred (some [])) := fun jump Y hs => by
      have hYl := (hs.2 (w.heap.size + 1) (by omega) (by omega)).trans hXl
      have hYd := (hs.2 w.heap.size (by omega) (by omega)).trans hXd
      have := run_endRound (P := P) jump hYl
      rw [hrc] at this ⊢
      exact ⟨this, World.putObj_heap_same (Array.getElem?_eq_some_iff.1 hYl).1, (World.putObj_heap_other (by omega)).trans hYd⟩
    rintro e a3 Y hp
    cases e with
    | normal =>
      obtain ⟨hs, hi'⟩ := hp
      obtain ⟨r1, r2, r3⟩ := fin none Y hs
      exact ⟨_, _, r1, .inl ⟨rfl, ⟨hI _ _ _ hi' (below_put _ (by omega)), r2, r3⟩, (hWX.trans (hs.up (by omega))).trans (stay_put _ (by omega))⟩⟩
    | ret =>
      obtain ⟨hs, hi'⟩ := hp
      obtain ⟨r1, r2, r3⟩ := fin (some .ret) Y hs
      exact ⟨_, _, r1, .inr ⟨rfl, hIx _ _ hi' (below_put _ (by omega)), r2, r3⟩⟩
    | exit id => exact hp.elim
    | goto t => exact hp.elim
    | panic ch => exact hp.elim
    | outgrown => exact hp.elim
  · rintro e Y ⟨⟨v, rfl⟩, ⟨hi, hl, hd⟩ | ⟨hi, hl, hd⟩⟩
    · exact ⟨none, _, by have := run_endLoop (P := P) hl (by rw [hrc]; simp); rw [hrc] at this; exact this, hdone _ _ (Nat.le_refl _) (hI _ _ _ hi (below_put _ (by omega))) ((World.putObj_heap_other (by omega)).trans hd)⟩
    · exact ⟨some .ret, _, by have := run_endLoop (P := P) hl (by rw [hrc]; simp); rw [hrc] at this; exact this, hstop _ _ (Nat.le_refl _) (hIx _ _ hi (below_put _ (by omega))) ((World.putObj_heap_other (by omega)).trans hd)⟩
end Go.Proofs.YtcckgfablfgknaaGreatDoor

/- The iterator of disas.readings hands over what a word would be, Op by Op. -/
namespace Go.Proofs.YtcckgfablfgknaaGreatDoor
open Go.ChangeShapes Go.WideShapes Go.ChangeAt Go.RowKit
set_option linter.unusedVariables false
attribute [local go_sem] Oper.semAt_some
/-- What the word would be, as an instruction of Op k + 1. -/
def rdE (v : Nat) (k : Nat) : Array Value := #[.agg #[.int .u8 ((k : Int) + 1), .int .u8 (fldW v 0).rd, .int .u8 (fldW v 0).rs1, .int .u8 (fldW v 0).rs2, .int .i64 (numW (formW v) v)]]
def cellN (w : World) (k : Nat) : Nat := match w.cell? ⟨k, 0, none⟩ with | some (.int _ n) => n.toNat | _ => 0
theorem rowG_stay {B : Nat} {C : Array Value} {X Y : World} {k : Nat} (h : rowG C X k) (hs : Stay B X Y) (hB : B ≤ k) : rowG C Y k := by
  obtain ⟨h1, h2, h3⟩ := h
  have e := hs.2 k hB h3
  refine ⟨fun i hi => ?_, fun i => ?_, Nat.lt_of_lt_of_le h3 hs.1⟩
  · rw [← h1 i hi]; unfold World.cell?; simp only [e]
  · rw [← h2 i]; unfold World.frozen?; simp only [e]
theorem row_set0 {c0 c1 c2 c3 c4 : Value} (v : Value) {w : World} {k : Nat} (h : rowG #[c0, c1, c2, c3, c4] w k) : rowG #[v, c1, c2, c3, c4] (w.setCell ⟨k, 0, none⟩ v) k := by
  have a0 : w.cell? ⟨k, 0, none⟩ = some c0 := h.1 0 (by simp)
  have a1 : w.cell? ⟨k, 1, none⟩ = some c1 := h.1 1 (by simp)
  have a2 : w.cell? ⟨k, 2, none⟩ = some c2 := h.1 2 (by simp)
  have a3 : w.cell? ⟨k, 3, none⟩ = some c3 := h.1 3 (by simp)
  have a4 : w.cell? ⟨k, 4, none⟩ = some c4 := h.1 4 (by simp)
  refine ⟨?_, ?_, ?_⟩
  · intro i hi
    have hi' : i < 5 := hi
    have hc : i = 0 ∨ i = 1 ∨ i = 2 ∨ i = 3 ∨ i = 4 := by omega
    clear hi hi'
    rcases hc with rfl | rfl | rfl | rfl | rfl <;> go_simp
  · intro i; simp only [World.frozen?_setCell]; exact h.2.1 i
  · simp only [World.size_setCell]; exact h.2.2
theorem cellN_row {n : Int} {c1 c2 c3 c4 : Value} {w : World} {k : Nat} (h : rowG #[.int .u8 n, c1, c2, c3, c4] w k) : cellN w k = n.toNat := by
  have a0 : w.cell? ⟨k, 0, none⟩ = some (.int .u8 n) := h.1 0 (by simp)
  unfold cellN; rw [a0]
set_option maxRecDepth 100000 in
set_option maxHeartbeats 8000000 in
theorem rdg_seq (v q : Nat) (hv : v < 4294967296) (n : Nat) (hn : 1 ≤ n) :
    SeqN n Tryz.prog 148 #[.pointer (some ⟨q, 0, none⟩)] (rdE v) 34 (fun W => W.cell? ⟨q, 0, none⟩ = some (.int .u32 v) ∧ DshOk W) := by
  intro l J Jx W ⟨hq, hT⟩ hJ hJx hY h0
  have hqs : q < W.heap.size := World.block_lt_of_cell? W _ hq
  refine callsIn_of_wp Tryz.func148 rfl trivial ?_
  simp only [Tryz.ntmps148, List.size_toArray, List.length_cons, List.length_nil, Nat.reduceAdd, Nat.reduceSub, Array.replicate_succ, Array.replicate_zero, List.push_toArray, List.append_toArray, List.nil_append, List.cons_append]
  gi_wp2
  obtain ⟨w1, hw1⟩ : ∃ w1, W.drew = w1 := ⟨_, rfl⟩
  have hB : Below W.heap.size W w1 := by rw [← hw1]; exact (Below.refl _ _).drew
  have hq1 := stay hB hq
  have hT1 := hT.of hB
  have hFm := formOf_any v hv
  have hFl := fields_any (formW v) v (formW_le v) hv
  have hE : ∀ k, rdE v k = #[.agg #[.int .u8 ((k : Int) + 1), .int .u8 (fldF (formW v) v 0).rd, .int .u8 (fldF (formW v) v 0).rs1, .int .u8 (fldF (formW v) v 0).rs2, .int .i64 (numW (formW v) v)]] := fun _ => rfl
  generalize (fldF (formW v) v 0).rd = r0 at *
  generalize (fldF (formW v) v 0).rs1 = r1 at *
  generalize (fldF (formW v) v 0).rs2 = r2 at *
  generalize numW (formW v) v = nm at *
  refine wpIn_mono (Q := fun e a w => e = .normal ∧ ∃ kx : Nat, a = ⟨#[.func (.yield l) #[] #[], .pointer (some ⟨q, 0, none⟩), undef, .pointer (some ⟨kx, 0, none⟩), .int .u32 v, .int .u8 (formW v : Nat), .int .u32 v, .agg #[.int .u8 0, .int .u8 r0, .int .u8 r1, .int .u8 r2, .int .i64 nm], undef, undef, undef, undef, undef, undef, undef, undef, undef, undef, undef, undef], []⟩ ∧ Below w1.heap.size w1 w ∧ w1.heap.size ≤ kx ∧ rowG #[.int .u8 0, .int .u8 r0, .int .u8 r1, .int .u8 r2, .int .i64 nm] w kx) (wpIn_wide.2 ?_) ?_
  rotate_left
  · rintro e a w ⟨rfl, kx, rfl, hBe, sx, dx⟩
    try dsimp only
    have hx1 : w1.heap.size = W.heap.size := by rw [← hw1]; rfl
    have hB2 : Below W.heap.size W w := below_trans' hB (Nat.le_refl _) hBe
    have c_0 : w.cell? ⟨kx, 0, none⟩ = some (.int .u8 0) := dx.1 0 (by simp); have z_0 := dx.2.1 0
    have c_1 : w.cell? ⟨kx, 1, none⟩ = some (.int .u8 r0) := dx.1 1 (by simp); have z_1 := dx.2.1 1
    have c_2 : w.cell? ⟨kx, 2, none⟩ = some (.int .u8 r1) := dx.1 2 (by simp); have z_2 := dx.2.1 2
    have c_3 : w.cell? ⟨kx, 3, none⟩ = some (.int .u8 r2) := dx.1 3 (by simp); have z_3 := dx.2.1 3
    have c_4 : w.cell? ⟨kx, 4, none⟩ = some (.int .i64 nm) := dx.1 4 (by simp); have z_4 := dx.2.1 4
    have lx := dx.2.2
    have hJ0 := hJ 0 W w h0 hB2
    clear hFm hFl hq hT hq1 hT1 hB hw1
    gi_wp2
    gi_loopw [] (fun wr => ∃ i : Nat, i ≤ 34 ∧ rowG #[.int .u8 ((i : Int) + 1), .int .u8 r0, .int .u8 r1, .int .u8 r2, .int .i64 nm] wr kx ∧ J i wr ∧ W.heap.size ≤ wr.heap.size) (fun wr => 36 - cellN wr kx)
    case atStart => exact ⟨0, by omega, row_set0 _ dx, hJ 0 w _ hJ0 (sBelow (Below.refl _ _) (by omega)), by simp only [World.size_setCell]; exact hB2.size⟩
    case round =>
      obtain ⟨i, hi, hr, hj, hb⟩ := hrel
      clear c_0 z_0 c_1 z_1 c_2 z_2 c_3 z_3 c_4 z_4 dx lx hJ0 hB2 hBe h0
      have c_0 : wr.cell? ⟨kx, 0, none⟩ = some (.int .u8 ((i : Int) + 1)) := hr.1 0 (by simp); have z_0 := hr.2.1 0
      have c_1 : wr.cell? ⟨kx, 1, none⟩ = some (.int .u8 r0) := hr.1 1 (by simp); have z_1 := hr.2.1 1
      have c_2 : wr.cell? ⟨kx, 2, none⟩ = some (.int .u8 r1) := hr.1 2 (by simp); have z_2 := hr.2.1 2
      have c_3 : wr.cell? ⟨kx, 3, none⟩ = some (.int .u8 r2) := hr.1 3 (by simp); have z_3 := hr.2.1 3
      have c_4 : wr.cell? ⟨kx, 4, none⟩ = some (.int .i64 nm) := hr.1 4 (by simp); have z_4 := hr.2.1 4
      by_cases hlt : i < 34
      · obtain ⟨fn, tmps, assign, body, hy, hR⟩ := hY i wr hj hlt hb
        rw [hE] at hy
        have h34 : (i : Int) + 1 ≤ 34 := by omega
        clear hY
        gi_wp2
        refine hR.mono ?_
        rintro e W3 (⟨rfl, hj3, hs3⟩ | ⟨rfl, hx3⟩)
        · have hr3 := rowG_stay hr hs3 (by omega)
          have hb3 : W.heap.size ≤ W3.heap.size := Nat.le_trans hb hs3.1
          have l3 := hr3.2.2
          have hr4 := row_set0 (.int .u8 ((i : Int) + 1 + 1)) hr3
          have d_0 : W3.cell? ⟨kx, 0, none⟩ = some (.int .u8 ((i : Int) + 1)) := hr3.1 0 (by simp); have y_0 := hr3.2.1 0
          gi_wp2
          go_roundw
          have e4 : (((i + 1 : Nat) : Int) + 1) = (i : Int) + 1 + 1 := by omega
          case rel => exact ⟨i + 1, by omega, by rw [e4]; exact hr4, hJ _ _ _ hj3 (sBelow (Below.refl _ _) (by omega)), by simp only [World.size_setCell]; exact hb3⟩
          case measure => rw [cellN_row hr4, cellN_row hr]; omega
        · gi_wp2
          refine bodyPost_ret (results_none rfl _ _ _) rfl ?_
          exact ⟨⟨_, rfl⟩, .inr hx3⟩
      · obtain rfl : i = 34 := by omega
        gi_wp2
        go_end0
        exact ⟨⟨_, rfl⟩, .inl hj⟩
  refine wp_region_any (by kernel_rfl) ?_
  show wpAny _ _ _ _ _ _ _ (World.drew _)
  rw [hw1]
  clear hw1 hJ hJx hY h0
  refine wpAny_inv (fun fu L a w => ∃ (b0 b1 b2 b3 b4 : Bool) (kx : Nat), fu = 1 + (tg b0 + tg b1 + tg b2 + tg b3 + tg b4) ∧ L = #[b0, b1, b2, b3, b4, false] ∧ a = ⟨#[.func (.yield l) #[] #[], .pointer (some ⟨q, 0, none⟩), undef, (bif b4 then .pointer (some ⟨kx, 0, none⟩) else undef), (bif b0 then .int .u32 v else undef), (bif b1 then .int .u8 (formW v : Nat) else undef), (bif b2 then .int .u32 v else undef), (bif b3 then .agg #[.int .u8 0, .int .u8 r0, .int .u8 r1, .int .u8 r2, .int .i64 nm] else undef), undef, undef, undef, undef, undef, undef, undef, undef, undef, undef, undef, undef], []⟩ ∧ ((b1 = true → b0 = true) ∧ (b3 = true → b1 = true) ∧ (b3 = true → b2 = true)) ∧ Below w1.heap.size w1 w ∧ ((b4 = true → blkG #[.int .u8 0, .int .u8 0, .int .u8 0, .int .u8 0, .int .i64 0] 68 w1 kx w)) ∧ (True)) ?_ _ _ _ _ ⟨false, false, false, false, false, 0, rfl, rfl, rfl, ⟨(by simp), (by simp), (by simp)⟩, Below.refl _ _, (by simp), trivial⟩
  intro fu L a w hI
  obtain ⟨b0, b1, b2, b3, b4, kx, rfl, rfl, rfl, ⟨e0, e1, e2⟩, hBe, a0, _⟩ := hI
  by_cases hall : (b0 = true ∧ b1 = true ∧ b2 = true ∧ b3 = true ∧ b4 = true)
  rotate_left
  · right
    refine ⟨0 + (tg b0 + tg b1 + tg b2 + tg b3 + tg b4), by omega, ?_, ?_⟩
    · intro hr
      have nin : ∀ j, j ∉ Region.ready _ _ _ := fun j hj => by rw [hr] at hj; cases hj
      have t0 : b0 = true := by
        cases b0 with
        | true => rfl
        | false => exact absurd (mem_ready.2 ⟨rfl, _, rfl, by intro e he hb; simp at he; (try (rcases he with rfl | rfl | rfl <;> first | rfl | (simp [Region.binds] at hb))); (try (rcases he with rfl | rfl <;> first | rfl | (simp [Region.binds] at hb))); (try (subst he; first | rfl | (simp [Region.binds] at hb)))⟩) (nin 0)
      subst t0
      have t1 : b1 = true := by
        cases b1 with
        | true => rfl
        | false => exact absurd (mem_ready.2 ⟨rfl, _, rfl, by intro e he hb; simp at he; (try (rcases he with rfl | rfl | rfl <;> first | rfl | (simp [Region.binds] at hb))); (try (rcases he with rfl | rfl <;> first | rfl | (simp [Region.binds] at hb))); (try (subst he; first | rfl | (simp [Region.binds] at hb)))⟩) (nin 1)
      subst t1
      have t2 : b2 = true := by
        cases b2 with
        | true => rfl
        | false => exact absurd (mem_ready.2 ⟨rfl, _, rfl, by intro e he hb; simp at he; (try (rcases he with rfl | rfl | rfl <;> first | rfl | (simp [Region.binds] at hb))); (try (rcases he with rfl | rfl <;> first | rfl | (simp [Region.binds] at hb))); (try (subst he; first | rfl | (simp [Region.binds] at hb)))⟩) (nin 2)
      subst t2
      have t3 : b3 = true := by
        cases b3 with
        | true => rfl
        | false => exact absurd (mem_ready.2 ⟨rfl, _, rfl, by intro e he hb; simp at he; (try (rcases he with rfl | rfl | rfl <;> first | rfl | (simp [Region.binds] at hb))); (try (rcases he with rfl | rfl <;> first | rfl | (simp [Region.binds] at hb))); (try (subst he; first | rfl | (simp [Region.binds] at hb)))⟩) (nin 3)
      subst t3
      have t4 : b4 = true := by
        cases b4 with
        | true => rfl
        | false => exact absurd (mem_ready.2 ⟨rfl, _, rfl, by intro e he hb; simp at he; (try (rcases he with rfl | rfl | rfl <;> first | rfl | (simp [Region.binds] at hb))); (try (rcases he with rfl | rfl <;> first | rfl | (simp [Region.binds] at hb))); (try (subst he; first | rfl | (simp [Region.binds] at hb)))⟩) (nin 4)
      subst t4
      exact hall ⟨rfl, rfl, rfl, rfl, rfl⟩
    · intro i hi
      obtain ⟨h0, o, ho, hd⟩ := mem_ready.1 hi
      have hiN : i < 6 := by simpa using (Array.getElem?_eq_some_iff.1 ho).1
      have hcN : i = 0 ∨ i = 1 ∨ i = 2 ∨ i = 3 ∨ i = 4 ∨ i = 5 := by omega
      clear hi hiN
      rcases hcN with rfl | rfl | rfl | rfl | rfl | rfl
      · simp at ho h0
        subst ho
        simp [Region.binds] at hd
        subst h0
        refine wpOp_step rfl (fun K' hK => ?_)
        have c0 := stay hBe hq1
        go_simp
        exact hK _ _ ⟨true, b1, b2, b3, b4, kx, by simp only [tg_t, tg_f]; omega, rfl, rfl, ⟨(by intro h; first | exact e0 h | rfl), (by intro h; first | exact e1 h | rfl), (by intro h; first | exact e2 h | rfl)⟩, hBe, a0, trivial⟩
      · simp at ho h0
        subst ho
        simp [Region.binds] at hd
        subst h0
        refine wpOp_step rfl (fun K' hK => ?_)
        have g0 : b0 = true := by first | exact hd | exact hd.1 | exact hd.2 | exact hd.2.1 | exact hd.2.2 | exact hd.2.2.1 | exact hd.2.2.2
        clear hd
        subst g0
        go_simp
        go_at_call 150; (with_reducible refine (hFm _).mono ?_); rintro e w3 ⟨rfl, hbc⟩
        exact hK _ _ ⟨true, true, b2, b3, b4, kx, by simp only [tg_t, tg_f]; omega, rfl, rfl, ⟨(by intro h; first | exact e0 h | rfl), (by intro h; first | exact e1 h | rfl), (by intro h; first | exact e2 h | rfl)⟩, (below_trans' hBe (Nat.le_refl _) hbc), (fun h => blkG_of hbc (a0 h)), trivial⟩
      · simp at ho h0
        subst ho
        simp [Region.binds] at hd
        subst h0
        refine wpOp_step rfl (fun K' hK => ?_)
        have c0 := stay hBe hq1
        go_simp
        exact hK _ _ ⟨b0, b1, true, b3, b4, kx, by simp only [tg_t, tg_f]; omega, rfl, rfl, ⟨(by intro h; first | exact e0 h | rfl), (by intro h; first | exact e1 h | rfl), (by intro h; first | exact e2 h | rfl)⟩, hBe, a0, trivial⟩
      · simp at ho h0
        subst ho
        simp [Region.binds] at hd
        subst h0
        refine wpOp_step rfl (fun K' hK => ?_)
        have g1 : b1 = true := by first | exact hd | exact hd.1 | exact hd.2 | exact hd.2.1 | exact hd.2.2 | exact hd.2.2.1 | exact hd.2.2.2
        have g2 : b2 = true := by first | exact hd | exact hd.1 | exact hd.2 | exact hd.2.1 | exact hd.2.2 | exact hd.2.2.1 | exact hd.2.2.2
        clear hd
        subst g1 g2
        obtain rfl := e0 rfl
        go_simp
        go_at_call 149; (with_reducible refine (hFl _ (hT1.of hBe)).mono ?_); rintro e w3 ⟨rfl, hbc⟩
        exact hK _ _ ⟨true, true, true, true, b4, kx, by simp only [tg_t, tg_f]; omega, rfl, rfl, ⟨(by intro h; first | exact e0 h | rfl), (by intro h; first | exact e1 h | rfl), (by intro h; first | exact e2 h | rfl)⟩, (below_trans' hBe (Nat.le_refl _) hbc), (fun h => blkG_of hbc (a0 h)), trivial⟩
      · simp at ho h0
        subst ho
        simp [Region.binds] at hd
        subst h0
        refine wpOp_step rfl (fun K' hK => ?_)
        go_simp
        exact hK _ _ ⟨b0, b1, b2, b3, true, w.heap.size, by simp only [tg_t, tg_f]; omega, rfl, rfl, ⟨(by intro h; first | exact e0 h | rfl), (by intro h; first | exact e1 h | rfl), (by intro h; first | exact e2 h | rfl)⟩, (hBe.alloc hBe.size _), (fun _ => blkG_new _ _ hBe.size), trivial⟩
      · exact (hall (by simp at ho; subst ho; simp [Region.binds] at hd <;> simp_all)).elim
  obtain ⟨rfl, rfl, rfl, rfl, rfl⟩ := hall
  left
  have d0 := a0 rfl
  clear a0 e0 e1 e2
  have c_0 : w.cell? ⟨kx, 0, none⟩ = some (.int .u8 0) := blkG_c d0 0; have z_0 := blkG_fr d0 0
  have c_1 : w.cell? ⟨kx, 1, none⟩ = some (.int .u8 0) := blkG_c d0 1; have z_1 := blkG_fr d0 1
  have c_2 : w.cell? ⟨kx, 2, none⟩ = some (.int .u8 0) := blkG_c d0 2; have z_2 := blkG_fr d0 2
  have c_3 : w.cell? ⟨kx, 3, none⟩ = some (.int .u8 0) := blkG_c d0 3; have z_3 := blkG_fr d0 3
  have c_4 : w.cell? ⟨kx, 4, none⟩ = some (.int .i64 0) := blkG_c d0 4; have z_4 := blkG_fr d0 4
  simp only [tg_t, Nat.add_zero]
  have sx := d0.1
  refine wpAny_ready (rs := [5]) (by kernel_rfl) (by simp) (AllReady.cons rfl (fun K hK => ?_) AllReady.nil)
  go_simp
  refine hK _ _ ?_
  clear hK K
  refine wpAny_done (by kernel_rfl) ?_ _
  refine ⟨rfl, kx, rfl, ?_, sx, ⟨?_, ?_, ?_⟩⟩
  · repeat (first | (with_reducible exact hBe) | (with_reducible refine sBelow ?_ sx))
  · intro i hi
    have hi' : i < 5 := hi
    have hc : i = 0 ∨ i = 1 ∨ i = 2 ∨ i = 3 ∨ i = 4 := by omega
    clear hi hi'
    rcases hc with rfl | rfl | rfl | rfl | rfl <;> go_simp
  · intro i; simp only [World.frozen?_setCell]; exact blkG_fr d0 i
  · simp only [World.size_setCell]; exact blkG_lt d0
end Go.Proofs.YtcckgfablfgknaaGreatDoor
