/- The methods of taker: what they hand over, line by line. -/
import Derived.Test.YtkibkaoffgnmkaaGreatDoorL35
import Derived.Test.YtkibkaoffgnmkaaGreatDoorL36
import Derived.Test.YtkibkaoffgnmkaaGreatDoorL37
import Derived.Test.YtkibkaoffgnmkaaGreatDoorL38
namespace Go.Proofs.YtkibkaoffgnmkaaGreatDoor
set_option linter.unusedVariables false
set_option linter.unusedSimpArgs false
set_option maxRecDepth 100000
set_option maxHeartbeats 200000000
open Go Go.ChangeShapes Go.WideShapes Go.ChangeAt Go.RowKit m9
attribute [local go_sem] Oper.semAt_some
theorem room_none (k : Nat) : Fence.wide.depth.isSome = true → 1 ≤ k := fun h => by cases h
theorem round_any {m m' : Nat} {P : Program} {l : Nat} {f : FuncId} {tmps : Array Value} {assign body : Code} {w : World} {R : Ending → World → Prop}
  (h : RoundIn Fence.wide m P l f tmps assign body w R) : RoundIn Fence.wide m' P l f tmps assign body w R := ⟨h.1, fun c cs _ => h.2 c cs (room_wide _)⟩
theorem yield_any {m : Nat} (m' : Nat) {P : Program} {l : Nat} {args : Array Value} {W : World} {R : Ending → World → Prop} (h : YieldAt Fence.wide m P l args W R) : YieldAt Fence.wide m' P l args W R := by
 obtain ⟨fn, tmps, assign, body, hy, hR⟩ := h
 exact ⟨fn, tmps, assign, body, hy, round_any hR⟩
def LnAt (LL : List (Nat × List Tk)) (k : Nat) (L : List (Nat × List Tk)) : Prop := ∀ i x, L[i]? = some x → LL[k + i]? = some x
theorem LnAt.app {LL : List (Nat × List Tk)} {k : Nat} {a b : List (Nat × List Tk)} (h : LnAt LL k (a ++ b)) : LnAt LL k a ∧ LnAt LL (k + a.length) b :=
 ⟨fun i x hx => h i x (by rw [List.getElem?_append_left (List.getElem?_eq_some_iff.1 hx).1]; exact hx), fun i x hx => by
  have := h (a.length + i) x (by rw [List.getElem?_append_right (by omega), Nat.add_sub_cancel_left]; exact hx)
  rw [← Nat.add_assoc] at this
  exact this⟩
theorem LnAt.cons {LL : List (Nat × List Tk)} {k : Nat} {y : Nat × List Tk} {b : List (Nat × List Tk)} (h : LnAt LL k (y :: b)) : LL[k]? = some y ∧ LnAt LL (k + 1) b :=
 ⟨h 0 y rfl, fun i x hx => by
  have := h (i + 1) x (by simpa using hx)
  rw [show k + (i + 1) = k + 1 + i by omega] at this
  exact this⟩
structure Tak (l : Nat) (LL : List (Nat × List Tk)) (w0 W : World) (J : Nat → World → Prop) : Prop where
 pre : ∀ k A, J k A → Below w0.heap.size w0 A
 ki : ∀ k A A', J k A → Ki 5 W.heap.size A A' → J k A'
 y : ∀ m k d T v A, J k A → LL[k]? = some (d, T) → A.ownsRow 0 95 4 v (zs T).length (cellsZ (zs T)) → W.heap.size ≤ A.heap.size → YieldAt Fence.wide m Tryz.prog l #[.int .i64 ((d : Nat) : Int), v] A fun r A' => r = .returned (.bool true) ∧ J (k + 1) A' ∧ Kp 5 W.heap.size A A'
 tb : Tb w0
 sw : SwOk w0
 le : w0.heap.size ≤ W.heap.size
theorem Tak.to {l : Nat} {LL : List (Nat × List Tk)} {w0 W : World} {J : Nat → World → Prop} (h : Tak l LL w0 W J) {k : Nat} {A A' : World} (hJ : J k A) (hb : Below A.heap.size A A') : J k A' := h.ki k A A' hJ (ki_below hb)
theorem HasS.kp {C : Array Value} {t : TypeId} {k : Nat} {B : Nat} {w w' : World} (h : HasS C t k w) (hk : Kp 5 B w w') (hB : B ≤ k) (ht : t ≠ 5) : HasS C t k w' := hk.at' k _ hB h (fun c fz e => by cases e; exact ht rfl)
mutual
def St.nd : St → Prop
 | .mk _ _ _ _ _ ex _ bd el => (∀ x ∈ ex, x.nodes ≤ 9000) ∧ ndS bd ∧ ndS el
def ndS : List St → Prop
 | [] => True
 | s :: r => s.nd ∧ ndS r
end
theorem ndS_iff : ∀ {l : List St}, ndS l ↔ ∀ x ∈ l, x.nd
 | [] => by rw [ndS]; simp
 | x :: l => by rw [ndS, ndS_iff (l := l)]; simp
def TkB (l : Nat) (LL : List (Nat × List Tk)) (w0 W : World) (J : Nat → World → Prop) (m : Nat) : Prop :=
 ∀ (n : Nat) (ls : List St) (ma : Option Addr) (nl cap dp k : Nat) (A : World), ls.length = nl → (stsL dp ls).length ≤ m → faS ls → ndS ls → StsAt (fun b => b < w0.heap.size) w0 ls ma → nl ≤ 140737488355328 → LnAt LL k (stsL dp ls) → J k A → W.heap.size ≤ A.heap.size → dp + m ≤ 1000000 →
  CallsIn Fence.wide n Tryz.prog 66 #[.func (.yield l) #[] #[], .slice ma nl cap, .int .i64 (dp : Int)] A fun r A' => r = .returned (.bool true) ∧ J (k + (stsL dp ls).length) A' ∧ Kp 5 W.heap.size A A'
def elL (dp : Nat) (el : List St) : List (Nat × List Tk) := if el.isEmpty = true then [] else (dp, [sg [125], wdT wElse, sg [123]]) :: stsL (dp + 1) el
theorem other_in {l : Nat} {LL : List (Nat × List Tk)} {w0 W : World} {J : Nat → World → Prop} (hK : Tak l LL w0 W J) {m : Nat} (ih : TkB l LL w0 W J m) (n : Nat) (el : List St) (ml : Option Addr) (nl cl dp k : Nat) (A : World)
  (hn : el.length = nl) (hlen : (stsL (dp + 1) el).length ≤ m) (hf : faS el) (hd : ndS el) (hS : StsAt (fun b => b < w0.heap.size) w0 el ml) (hnl : nl ≤ 140737488355328) (hL : LnAt LL k (elL dp el)) (hJ : J k A) (hA : W.heap.size ≤ A.heap.size) (hdp : dp + 1 + m ≤ 1000000) :
  CallsIn Fence.wide n Tryz.prog 149 #[.func (.yield l) #[] #[], .slice ml nl cl, .int .i64 (dp : Int)] A fun r A' => r = .returned (.bool true) ∧ J (k + (elL dp el).length) A' ∧ Kp 5 W.heap.size A A' := by
 have hdd : ∀ k : Nat, (Fence.wide.depth.isSome = true → 1 ≤ k) := room_none
 have hwr : IntKind.i64.wrap ((dp : Int) + 1) = ((dp + 1 : Nat) : Int) := by rw [IntKind.wrap_i64]; omega
 by_cases h0 : el = []
 ·subst h0
  obtain rfl : nl = 0 := hn.symm
  refine callsIn_of_wp Tryz.func149 rfl trivial ?_
  simp only [Tryz.ntmps149, List.size_toArray, List.length_cons, List.length_nil, Nat.reduceAdd, Nat.reduceSub, Array.replicate_succ, Array.replicate_zero, List.push_toArray, List.append_toArray, List.nil_append, List.cons_append]
  gi_wp2
  go_ret
  exact ⟨rfl, by simpa [elL] using hJ, Kp.refl _ _ _⟩
 ·have hpos : 0 < nl := by rw [← hn]; exact List.length_pos_iff.2 h0
  have hpi : ((nl : Int) == 0) = false := by simp; omega
  have he : elL dp el = (dp, [sg [125], wdT wElse, sg [123]]) :: stsL (dp + 1) el := by unfold elL; rw [if_neg (by simp [h0])]
  rw [he] at hL ⊢
  obtain ⟨hL0, hL1⟩ := hL.cons
  have hob := own_built A A.heap.size (Nat.le_refl _)
  have hs1 := rsign_any [[125]] (A.heap.size + 1) 1 A.heap.size (.slice (some ⟨A.heap.size, 0, none⟩) 0 0) [] ((A.alloc (.cells #[] 95)).alloc (.cells #[.string { data := #[125] }] 9)) rfl (hasS_strs (ss := [[125]]) (by have := HasS.new (strC [[125]]).toArray 9 (A.alloc (.cells #[] 95)); rw [World.size_alloc] at this; exact this)) (by simp) (fun e => by simp [Value.ownBlock] at e) (hob.alloc _) (by simp; omega) (by simp)
  have hB2 : Below A.heap.size A ((A.alloc (.cells #[] 95)).alloc (.cells #[.string { data := #[125] }] 9)) := aB (aB (Below.refl _ _) _) _
  clear hob
  have hcast : ((dp + 1 : Nat) : Int) = (dp : Int) + 1 := by omega
  have hce : [] ++ zs ([[125]].map sg) ++ zs [wdT wElse] ++ zs ([[123]].map sg) = zs [sg [125], wdT wElse, sg [123]] := by simp [zs]
  refine callsIn_of_wp Tryz.func149 rfl trivial ?_
  simp only [Tryz.ntmps149, List.size_toArray, List.length_cons, List.length_nil, Nat.reduceAdd, Nat.reduceSub, Array.replicate_succ, Array.replicate_zero, List.push_toArray, List.append_toArray, List.nil_append, List.cons_append]
  gi_wp2_with (first | (refine ⟨trivial, hdd _, ?_⟩; gi_at_call 117; (with_reducible refine (callsIn_wide.2 hs1).mono ?_); clear hs1; rintro e v1 ⟨l1, rfl, hT1⟩; have hBl1 : A.heap.size ≤ v1.heap.size := Nat.le_trans (by simp; omega) hT1.only.size; have hwd := rword_any wElse A.heap.size l1 _ v1 hT1.own hBl1 (by simp [zs])) | (refine ⟨trivial, hdd _, ?_⟩; gi_at_call 115; (rw [show ({ data := #[101, 108, 115, 101] } : ByteArray) = str wElse from rfl]); (with_reducible refine (callsIn_wide.2 hwd).mono ?_); clear hwd; rintro e v2 ⟨l2, rfl, hT2⟩; have hs3 := rsign_any [[123]] v2.heap.size 1 A.heap.size l2 _ (v2.alloc (.cells #[.string { data := #[123] }] 9)) rfl (hasS_strs (ss := [[123]]) (HasS.new (strC [[123]]).toArray 9 v2)) (by simp) (own_new hT2.own (.inl (Nat.le_refl _))) (hT2.own.alloc _) (Nat.le_trans (Nat.le_trans hBl1 hT2.only.size) (by simp)) (by simp [zs])) | (refine ⟨trivial, hdd _, ?_⟩; gi_at_call 117; (with_reducible refine (callsIn_wide.2 hs3).mono ?_); clear hs3; rintro e v3 ⟨l3, rfl, hT3⟩; have hTt := (hT1.trans hT2).trans (hT3.pre (aB (Below.refl _ _) _)); have hB3 : Below A.heap.size A v3 := hB2.trans (hTt.only.below (B := A.heap.size) (fun j hj => by cases hj; exact Nat.le_refl _) hB2.size); have hO3 := own_base (Nat.zero_le _) hTt.own; (rw [hce] at hO3); (obtain ⟨fn, tmps, assign, body, hy, hR⟩ := hK.y (n - 1) k dp _ l3 v3 (hK.to hJ hB3) hL0 hO3 (Nat.le_trans hA hB3.size))) | (refine ⟨hdd _, ?_⟩; refine (round_any hR).mono ?_; clear hR hy; rintro e A3 ⟨rfl, hJ3, hK3⟩; have hA3 := Nat.le_trans (Nat.le_trans hA hB3.size) hK3.size; have hbk := ih (n - 1) el ml nl cl (dp + 1) (k + 1) A3 hn hlen hf hd hS hnl hL1 hJ3 hA3 hdp; (rw [hcast] at hbk)) | (refine ⟨trivial, hdd _, ?_⟩; gi_at_call 66; (with_reducible refine hbk.mono ?_); rintro e A4 ⟨rfl, hJ4, hK4⟩))
  go_ret
  refine ⟨rfl, ?_, (kp_below hB3).trans (hK3.trans hK4)⟩
  rw [show k + ((stsL (dp + 1) el).length + 1) = k + 1 + (stsL (dp + 1) el).length by omega]
  exact hJ4
end Go.Proofs.YtkibkaoffgnmkaaGreatDoor
