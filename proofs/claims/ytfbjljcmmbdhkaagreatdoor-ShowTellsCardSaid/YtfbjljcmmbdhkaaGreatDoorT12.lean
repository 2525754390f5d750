/- A range over a function whose iterator hands over rows of its own making, and goes on to the end; what is kept of worlds in which rows of bytes alone grow; for whatever program. -/
import Derived.Test.YtfbjljcmmbdhkaaGreatDoorT10
import Derived.RangeFuncNested
import Derived.RangeFuncBound
import Derived.RangeFuncCalls
import Derived.RangeFuncLeaves
import Derived.Shelf.Abstract
import Derived.WalkKit
import Derived.OwnWalkIn
import Derived.TacticsInMore
import Derived.LoopNIn
import Derived.LoopIn
import Derived.Test.YtfbjljcmmbdhkaaGreatDoorT11
import Derived.Test.YtfbjljcmmbdhkaaGreatDoorT06
import Derived.Test.YtfbjljcmmbdhkaaGreatDoorT05
namespace Go.Proofs.YtfbjljcmmbdhkaaGreatDoor
set_option linter.unusedVariables false
set_option linter.unusedSimpArgs false
set_option maxRecDepth 100000
set_option maxHeartbeats 200000000
section
namespace m9
open Go Go.RowKit Go.ChangeShapes
structure Kp (e : TypeId) (B : Nat) (W W' : World) : Prop where
 size : W.heap.size ≤ W'.heap.size
 at' : ∀ k o, B ≤ k → W.heap[k]? = some o → (∀ c fz, o ≠ .cells c e fz) → W'.heap[k]? = some o
theorem Kp.refl (e : TypeId) (B : Nat) (W : World) : Kp e B W W := ⟨Nat.le_refl _, fun _ _ _ h _ => h⟩
theorem Kp.trans {e : TypeId} {B : Nat} {X Y Z : World} (h : Kp e B X Y) (k : Kp e B Y Z) : Kp e B X Z := ⟨Nat.le_trans h.size k.size, fun j o hj hl hn => k.at' j o hj (h.at' j o hj hl hn) hn⟩
theorem Kp.up {e : TypeId} {B C : Nat} {X Y : World} (h : Kp e B X Y) (hc : B ≤ C) : Kp e C X Y := ⟨h.size, fun j o hj => h.at' j o (Nat.le_trans hc hj)⟩
theorem lt_of_heap {W : World} {k : Nat} {o : Obj} (h : W.heap[k]? = some o) : k < W.heap.size := (Array.getElem?_eq_some_iff.1 h).1
theorem kp_below {e : TypeId} {B : Nat} {X Y : World} (h : Below X.heap.size X Y) : Kp e B X Y := ⟨h.size, fun j o _ hl _ => (h.block j (lt_of_heap hl)).trans hl⟩
theorem kp_put {e : TypeId} {B : Nat} {X : World} {l : Nat} (o : Obj) (hl : l < B) : Kp e B X (X.putObj l o) := ⟨by simp, fun j o hj hh _ => (World.putObj_heap_other (by omega)).trans hh⟩
theorem kp_others {e : TypeId} {B b : Nat} {X Y : World} (h : Lib.OthersKept e (some b) X Y) (hb : b < B) (hs : X.heap.size ≤ Y.heap.size) : Kp e B X Y :=
 ⟨hs, fun j o hj hl hn => h j o hl (by intro e; injection e with e; omega) hn⟩
structure Ki (e : TypeId) (B : Nat) (W W' : World) : Prop where
 os : W'.os = W.os
 tape : W'.tape = W.tape
 output : W'.output = W.output
 size : W.heap.size ≤ W'.heap.size
 at' : ∀ k o, W.heap[k]? = some o → (k < B ∨ ∃ c fz, o = .cells c e fz) → W'.heap[k]? = some o
theorem Ki.refl (e : TypeId) (B : Nat) (W : World) : Ki e B W W := ⟨rfl, rfl, rfl, Nat.le_refl _, fun _ _ h _ => h⟩
theorem Ki.trans {e : TypeId} {B : Nat} {X Y Z : World} (h : Ki e B X Y) (k : Ki e B Y Z) : Ki e B X Z := ⟨k.os.trans h.os, k.tape.trans h.tape, k.output.trans h.output, Nat.le_trans h.size k.size, fun j o hj hl => k.at' j o (h.at' j o hj hl) hl⟩
theorem Ki.mono {e : TypeId} {B C : Nat} {X Y : World} (h : Ki e B X Y) (hc : C ≤ B) : Ki e C X Y := ⟨h.os, h.tape, h.output, h.size, fun j o hj hl => h.at' j o hj (hl.imp (fun h => Nat.lt_of_lt_of_le h hc) id)⟩
theorem ki_below {e : TypeId} {B : Nat} {X Y : World} (h : Below X.heap.size X Y) : Ki e B X Y := ⟨h.os, h.tape, h.output, h.size, fun j o hj _ => (h.block j (lt_of_heap hj)).trans hj⟩
theorem ki_put {e : TypeId} {B : Nat} {X : World} {l : Nat} {o1 : Obj} (o : Obj) (hl : B ≤ l) (h1 : X.heap[l]? = some o1) (hn : ∀ c fz, o1 ≠ .cells c e fz) : Ki e B X (X.putObj l o) :=
 ⟨rfl, rfl, rfl, by simp, fun j o2 hj hc => by
  have hne : l ≠ j := fun he => by
   subst he
   rw [h1] at hj
   cases hj
   rcases hc with hc | ⟨c, fz, hc⟩
   ·omega
   ·exact hn _ _ hc
  exact (World.putObj_heap_other hne.symm).trans hj⟩
def Ck (W W' : World) : Prop := ∀ (k : Nat) (c : Array Value) (t : TypeId) (fz : Nat × Nat), W.heap[k]? = some (Obj.cells c t fz) → W'.heap[k]? = some (Obj.cells c t fz)
def SeqR {α : Type} (e : TypeId) (n : Nat) (P : Program) (g : Nat) (lb : Array Value) (encs : α → Array Value) (Rel : Nat → α → World → Prop) (N : Nat) (Pre : World → Prop) : Prop :=
 ∀ (l : Nat) (J : Nat → World → Prop) (W : World), Pre W →
  (∀ k A, J k A → Pre A) → (∀ k A A', J k A → Ki e W.heap.size A A' → J k A') →
  (∀ k x W1, J k W1 → Rel k x W1 → k < N → W.heap.size ≤ W1.heap.size → YieldAt Fence.wide (n - 1) P l (encs x) W1 fun r W' =>
    r = .returned (.bool true) ∧ J (k + 1) W' ∧ Kp e W.heap.size W1 W') →
  J 0 W →
  CallsIn Fence.wide n P g (#[.func (.yield l) #[] #[]] ++ lb) W fun r W' => (∃ v, r = .returned v) ∧ J N W'
def rPost (e : TypeId) (B : Nat) (I : Nat → World → Prop) (k : Nat) (W : World) : Exit → Act → World → Prop
 | .normal, _, W' => Kp e B W W' ∧ I (k + 1) W'
 | _, _, _ => False
theorem range_r {α : Type} {e : TypeId} {n : Nat} {P : Program} {g : Operand} {ps : Array Tmp} {assign body : Code} {Q : Exit → Act → World → Prop} {a : Act} {w : World}
 (h1 : 1 ≤ n) {gf : Nat} {lb : Array Value} (hg : a.eval g = .func (.func gf) #[] lb) (eg : ∀ args w, (callFunc gf args).run P w = .ok (.enter gf args) w)
 {encs : α → Array Value} {Rel : Nat → α → World → Prop} {N : Nat} {Pre : World → Prop} (hseq : SeqR e (n - 1) P gf lb encs Rel N Pre) (hPre : ∀ W, Below w.heap.size w W → Pre W) (hps : ∀ x, (encs x).size = ps.size)
 (hRel : ∀ k x A A', Rel k x A → Ck A A' → Rel k x A')
 (I : Nat → World → Prop) (hIP : ∀ k A, I k A → Pre A) (hI : ∀ k A A', I k A → Ki e w.heap.size A A' → I k A') (h0 : I 0 w)
 (Ax : α → Act → World → Prop) (hAx : ∀ x a' A A', Ax x a' A → (∀ j, w.heap.size + 2 ≤ j → A'.heap[j]? = A.heap[j]?) → Ax x a' A')
 (hassign : ∀ (l : Nat) (x : α) (W : World) (K : Act → World → Prop), w.heap.size + 2 ≤ W.heap.size → (∀ a' W', Below W.heap.size W W' → Ax x a' W' → K a' W') →
   assign.wpIn (Fence.wide.inRound l) (n - 1 - 1) P (Exit.then K (fun _ _ _ => False)) { tmps := (ps.zip (encs x)).foldl (fun t (p, v) => t.setIfInBounds p v) a.tmps, defers := [] } W)
 (hbody : ∀ (l k : Nat) (x : α) (a' : Act) (W : World), w.heap.size + 2 ≤ W.heap.size → I k W → Rel k x W → Ax x a' W → k < N → body.wpIn (Fence.wide.inRound l) (n - 1 - 1) P (rPost e w.heap.size I k W) a' W)
 (hdone : ∀ (D : Nat) (W : World), w.heap.size ≤ D → I N W → W.heap[D]? = some (.deferred (some [])) → Q .normal { a with defers := { target := .collected D, args := #[] } :: a.defers } W) :
 (Code.rangeFunc g ps assign body).wpIn Fence.wide n P Q a w := by
 refine wpIn_rangeFunc ?_
 intro fn hfn
 obtain ⟨rc, hrc⟩ : ∃ rc : LoopState → Option Code → Loop, rc = fun st pe => { state := st, pending := pe, fn, tmps := a.tmps, params := ps, assign, body, defers := w.heap.size } := ⟨_, rfl⟩
 obtain ⟨V, hV⟩ : ∃ V, (w.alloc (.deferred (some []))).alloc (.loop (rc .ready none)) = V := ⟨_, rfl⟩
 have hVs : V.heap.size = w.heap.size + 2 := by rw [← hV]; simp
 have hVb : Below w.heap.size w V := by rw [← hV]; exact ((Below.refl _ w).alloc (Nat.le_refl _) _).alloc (by simp) _
 have hL : V.heap[w.heap.size + 1]? = some (.loop (rc .ready none)) := by
  have := World.alloc_heap_new (w.alloc (.deferred (some []))) (.loop (rc .ready none))
  rw [World.size_alloc] at this
  rw [← hV]; exact this
 have hD : V.heap[w.heap.size]? = some (.deferred (some [])) := by
  rw [← hV]; exact (Below.heap_alloc _ _ _ (by simp)).trans (World.alloc_heap_new w _)
 refine ⟨w.heap.size + 1, [{ target := .collected w.heap.size, args := #[] }], V, { target := .fn (.func gf) lb, args := #[.func (.yield (w.heap.size + 1)) #[] #[]] }, V, gf,
  #[.func (.yield (w.heap.size + 1)) #[] #[]] ++ lb, V, ?_, ?_, fun _ _ => trivial, ?_, fun _ => h1, ?_⟩
 ·rw [← hV, hrc]; exact run_enterLoop_outer _ _ _ _ _
 ·simp only [resolve, hg]; simp [go_sem]
 ·simp [invoke, go_sem, eg]
 refine (hseq (w.heap.size + 1)
  (fun k A => I k A ∧ A.heap[w.heap.size + 1]? = some (.loop (rc .ready none)) ∧ A.heap[w.heap.size]? = some (.deferred (some [])))
  V (hPre V hVb)
  (fun k A ⟨x, _, _⟩ => hIP k A x)
  (fun k A B ⟨x, y, z⟩ hb => ⟨hI k A B x (hb.mono (by omega)), hb.at' _ _ y (.inl (by omega)), hb.at' _ _ z (.inl (by omega))⟩)
  ?_ ⟨hI 0 w V h0 (ki_below hVb), hL, hD⟩).mono ?_
 ·rintro k x W ⟨hi, hl, hd⟩ hrl hlt hBW
  have hsz : w.heap.size + 2 ≤ W.heap.size := by omega
  have hy := run_yield (P := P) (args := encs x) hl (by rw [hrc]; exact hps x)
  rw [hrc] at hy
  refine ⟨fn, _, assign, body, hy, roundIn_of_wpIn hfn (hassign _ x W _ hsz fun a' W' hbW hax => ?_)⟩
  have hl' : W'.heap[w.heap.size + 1]? = some (.loop (rc .ready none)) := (hbW.block _ (by omega)).trans hl
  have hd' : W'.heap[w.heap.size]? = some (.deferred (some [])) := (hbW.block _ (by omega)).trans hd
  have hsz' : w.heap.size + 2 ≤ W'.heap.size := Nat.le_trans hsz hbW.size
  refine ⟨_, run_beginRound hl' (by rw [hrc]), ?_⟩
  obtain ⟨X, hX⟩ : ∃ X, W'.putObj (w.heap.size + 1) (.loop { rc .ready none with state := .busy }) = X := ⟨_, rfl⟩
  rw [hX]
  have hXl : X.heap[w.heap.size + 1]? = some (.loop { rc .ready none with state := .busy }) := by rw [← hX]; exact World.putObj_heap_same (by omega)
  have hXd : X.heap[w.heap.size]? = some (.deferred (some [])) := by rw [← hX]; exact (World.putObj_heap_other (by omega)).trans hd'
  have hXs : X.heap.size = W'.heap.size := by rw [← hX]; simp
  have hWX' : Ki e w.heap.size W' X := by rw [← hX]; exact ki_put _ (by omega) hl' (fun _ _ h => by cases h)
  have hXi : I k X := hI k W X hi ((ki_below hbW).trans hWX')
  have hXa : Ax x a' X := hAx x a' W' X hax (fun j hj => by rw [← hX]; exact World.putObj_heap_other (by omega))
  have hWX : Kp e V.heap.size W X := (kp_below hbW).trans (by rw [← hX]; exact kp_put _ (by omega))
  have hXr : Rel k x X := hRel k x W X hrl (fun j c t fz hj => by
   have hj' : W'.heap[j]? = some (.cells c t fz) := (hbW.block _ (lt_of_heap hj)).trans hj
   have hne : w.heap.size + 1 ≠ j := fun he => by rw [← he, hl'] at hj'; cases hj'
   rw [← hX]
   exact (World.putObj_heap_other hne.symm).trans hj')
  refine wpIn_mono (hbody _ k x a' X (by omega) hXi hXr hXa hlt) ?_
  rintro e' a3 Y hp
  cases e' with
  | normal =>
   obtain ⟨hs, hi'⟩ := hp
   have hYl := hs.at' (w.heap.size + 1) _ (by omega) hXl (fun _ _ h => by cases h)
   have hYd := hs.at' w.heap.size _ (by omega) hXd (fun _ _ h => by cases h)
   have r1 := run_endRound (P := P) none hYl
   rw [hrc] at r1
   refine ⟨_, _, r1, rfl, ⟨hI _ _ _ hi' (ki_put _ (by omega) hYl (fun _ _ h => by cases h)), ?_, (World.putObj_heap_other (by omega)).trans hYd⟩, (hWX.trans (hs.up (by omega))).trans (kp_put _ (by omega))⟩
   rw [hrc]
   exact World.putObj_heap_same (Array.getElem?_eq_some_iff.1 hYl).1
  | ret => exact hp.elim
  | exit id => exact hp.elim
  | goto t => exact hp.elim
  | panic ch => exact hp.elim
  | outgrown => exact hp.elim
 ·rintro r Y ⟨⟨v, rfl⟩, hi, hl, hd⟩
  exact ⟨none, _, by have := run_endLoop (P := P) hl (by rw [hrc]; simp); rw [hrc] at this; exact this, hdone _ _ (Nat.le_refl _) (hI _ _ _ hi (ki_put _ (by omega) hl (fun _ _ h => by cases h))) ((World.putObj_heap_other (by omega)).trans hd)⟩
end m9
end
section
open Go.ChangeShapes Go.WideShapes Go.ChangeAt Go.RowKit
theorem rword_any (s : List UInt8) (B : Nat) (l : Value) (T : List (Tk × Int)) (w : World) (ho : w.ownsRow B 95 4 l T.length (cellsZ T)) (hB : B ≤ w.heap.size) (hl : T.length ≤ 1000000) :
 Calls Tryz.prog 115 #[l, .string (str s)] w fun r w' => ∃ l', r = .returned l' ∧ Tl B w w' l l' (T ++ zs [wdT s]) := by
 obtain ⟨i0, hi, hz0, hz1, hz2⟩ := info_parts infoT
 obtain ⟨M, hM⟩ : ∃ M, M = T.length := ⟨_, rfl⟩
 rw [← hM] at ho hl
 have HM := Lib.hid hM
 clear hM
 go_enter Tryz.func115, Tryz.ntmps115
 go_wp2_with (at_builtin; refine wpList_append_lies _ rfl _ _ 63 rfl B 95 i0 _ 4 40 Tryz.underlying63 hi hz0 hz1 hz2 rfl (by decide) l M (cellsZ T) rfl (ho.alloc _) ⟨w.heap.size, 0, none⟩ 1 1 (cellsZ (zs [wdT s])) rfl rfl ?cN ?c0 (by decide) ?c1 ?c2 ?c3 _ rfl ?_)
 case cN => exact news_ok (cellsZ (zs [wdT s])) 95 w
 case c0 => exact cellsZ_one _
 case c1 => unfold maxLen; omega
 case c2 => omega
 case c3 => simp; omega
 intro g cap' w5 hown hgrow hat hlt
 go_wp2
 go_ret
 exact ⟨_, rfl, (tl_append hown HM.out rfl hgrow hat (by simp)).pre (aB (Below.refl _ _) _)⟩
theorem rname_any (s : List UInt8) (B : Nat) (l : Value) (T : List (Tk × Int)) (w : World) (ho : w.ownsRow B 95 4 l T.length (cellsZ T)) (hB : B ≤ w.heap.size) (hl : T.length ≤ 1000000) :
 Calls Tryz.prog 116 #[l, .string (str s)] w fun r w' => ∃ l', r = .returned l' ∧ Tl B w w' l l' (T ++ zs [nmT s]) := by
 obtain ⟨i0, hi, hz0, hz1, hz2⟩ := info_parts infoT
 obtain ⟨M, hM⟩ : ∃ M, M = T.length := ⟨_, rfl⟩
 rw [← hM] at ho hl
 have HM := Lib.hid hM
 clear hM
 go_enter Tryz.func116, Tryz.ntmps116
 go_wp2_with (at_builtin; refine wpList_append_lies _ rfl _ _ 63 rfl B 95 i0 _ 4 40 Tryz.underlying63 hi hz0 hz1 hz2 rfl (by decide) l M (cellsZ T) rfl (ho.alloc _) ⟨w.heap.size, 0, none⟩ 1 1 (cellsZ (zs [nmT s])) rfl rfl ?cN ?c0 (by decide) ?c1 ?c2 ?c3 _ rfl ?_)
 case cN => exact news_ok (cellsZ (zs [nmT s])) 95 w
 case c0 => exact cellsZ_one _
 case c1 => unfold maxLen; omega
 case c2 => omega
 case c3 => simp; omega
 intro g cap' w5 hown hgrow hat hlt
 go_wp2
 go_ret
 exact ⟨_, rfl, (tl_append hown HM.out rfl hgrow hat (by simp)).pre (aB (Below.refl _ _) _)⟩
theorem Tl.refl {B : Nat} {w : World} {l : Value} {T : List (Tk × Int)} (h : w.ownsRow B 95 4 l T.length (cellsZ T)) : Tl B w w l l T := ⟨h, Only.refl _ _, fun j hj => .inl hj⟩
theorem Tl.alloc {B : Nat} {w w' : World} {l l' : Value} {T : List (Tk × Int)} (h : Tl B w w' l l' T) (o : Obj) : Tl B w (w'.alloc o) l l' T := h.post (aB (Below.refl _ _) _)
theorem rsign_any (ss : List (List UInt8)) (k n : Nat) (B : Nat) (l : Value) (T : List (Tk × Int)) (w : World) (hn : ss.length = n) (hk : ∀ j (h : j < ss.length), w.cell? ⟨k, j, none⟩ = some (.string (str ss[j]))) (hkl : k < w.heap.size) (hkn : l.ownBlock ≠ some k)
 (ho : w.ownsRow B 95 4 l T.length (cellsZ T)) (hB : B ≤ w.heap.size) (hl : T.length + ss.length ≤ 1000000) :
 Calls Tryz.prog 117 #[l, .slice (some ⟨k, 0, none⟩) n n] w fun r w' => ∃ l', r = .returned l' ∧ Tl B w w' l l' (T ++ zs (ss.map sg)) := by
 obtain ⟨i0, hi, hz0, hz1, hz2⟩ := info_parts infoT
 have HN := Lib.hid hn
 have hl' : T.length + n ≤ 1000000 := by omega
 have HK := Lib.hid hk
 clear hn hk hl
 go_enter Tryz.func117, Tryz.ntmps117
 go_wp2
 go_loopw [0, 9] (fun l1 i wr => ∃ j : Nat, j ≤ n ∧ i = .int .i64 j ∧ Tl B w wr l l1 (T ++ zs ((ss.take j).map sg))) (fun _ i _ => n - (intOf i).toNat)
 case atStart => exact ⟨0, by omega, rfl, by simpa [zs] using Tl.refl ho⟩
 case round =>
  obtain ⟨j, hj, rfl, hT⟩ := hrel
  by_cases hlt : j < n
  ·have hlt' : j < ss.length := by rw [HN.out]; exact hlt
   have cj : wr.cell? ⟨k, j, none⟩ = some (.string (str ss[j])) := hT.only.cell (by simpa using hkn) (HK.out j hlt')
   have hkr : k < wr.heap.size := Nat.lt_of_lt_of_le hkl hT.only.size
   have hTl : (T ++ zs ((ss.take j).map sg)).length ≤ 1000000 := by simp [zs]; omega
   have ho1 := hT.own
   have HT := Lib.hid hT
   clear hT
   generalize hT0 : T ++ zs ((ss.take j).map sg) = T1 at *
   have HT0 := Lib.hid hT0
   clear hT0
   obtain ⟨M, hM⟩ : ∃ M, M = T1.length := ⟨_, rfl⟩
   rw [← hM] at ho1 hTl
   have HM := Lib.hid hM
   clear hM
   obtain ⟨s, hs⟩ : ∃ s, s = ss[j] := ⟨_, rfl⟩
   rw [← hs] at cj
   have HS := Lib.hid hs
   clear hs
   go_wp2_with (at_builtin; refine wpList_append_lies _ rfl _ _ 63 rfl B 95 i0 _ 4 40 Tryz.underlying63 hi hz0 hz1 hz2 rfl (by decide) _ M (cellsZ T1) rfl (ho1.alloc _) ⟨wr.heap.size, 0, none⟩ 1 1 (cellsZ (zs [sg s])) rfl rfl ?cN ?c0 (by decide) ?c1 ?c2 ?c3 _ rfl ?_)
   case cN => first | exact news_ok (cellsZ (zs [sg s])) 95 wr | exact fun j u h => h
   case c0 => exact cellsZ_one _
   case c1 => unfold maxLen; omega
   case c2 => omega
   case c3 => have := HT.out.only.size; simp; omega
   intro g cap' w5 hown hgrow hat hlt5
   have hT5 := HT.out.trans ((tl_append hown HM.out rfl hgrow hat (by simp)).pre (aB (Below.refl _ _) _))
   go_wp2
   go_roundw
   case rel => exact ⟨j + 1, by omega, by go_num, by rw [List.take_succ_eq_append_getElem hlt', List.map_append, zs_app, ← List.append_assoc, HT0.out, ← HS.out]; exact hT5⟩
   case measure => simp [intOf]; omega
  ·obtain rfl : j = n := by omega
   go_wp2
   go_ret
   rw [List.take_of_length_le (by rw [HN.out]; exact Nat.le_refl _)] at hT
   exact ⟨_, rfl, hT⟩
theorem append_tu {P : Program} {t u ty e e' : TypeId} (ht : P.underlying t = some (.slice e)) (hu : P.underlying u = some (.slice e')) (b b2 : Option Addr) (n c n2 c2 : Nat) (w : World) : (Builtin.append_ #[t, u] ty #[.slice b n c, .slice b2 n2 c2]).run P w = (Builtin.append_ #[t, t] ty #[.slice b n c, .slice b2 n2 c2]).run P w := by
 unfold Builtin.append_
 simp [go_sem, run_underlying ht, run_underlying hu]
end
end Go.Proofs.YtfbjljcmmbdhkaaGreatDoor
