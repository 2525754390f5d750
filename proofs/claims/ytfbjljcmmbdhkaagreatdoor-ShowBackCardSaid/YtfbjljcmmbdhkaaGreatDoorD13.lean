/- Contract of tell. -/
import Derived.Test.YtfbjljcmmbdhkaaGreatDoorD12
import Derived.Deep.AppendLies
import Derived.Test.YtfbjljcmmbdhkaaGreatDoorD01
import Derived.BigQuiet
namespace Go.Proofs.YtfbjljcmmbdhkaaGreatDoor
set_option linter.unusedVariables false
set_option linter.unusedSimpArgs false
set_option maxRecDepth 100000
set_option maxHeartbeats 200000000
open Go.ChangeShapes Go.WideShapes Go.ChangeAt Go.RowKit
structure Tl (B : Nat) (w w' : World) (l l' : Value) (T' : List (Tk × Int)) : Prop where
 own : w'.ownsRow B 95 4 l' T'.length (zQl T')
 only : Only (fun j => l.ownBlock = some j) w w'
 blk : ∀ j, l'.ownBlock = some j → l.ownBlock = some j ∨ w.heap.size ≤ j
theorem Tl.trans {B : Nat} {a b c : World} {l l1 l2 : Value} {T1 T2 : List (Tk × Int)} (h : Tl B a b l l1 T1) (k : Tl B b c l1 l2 T2) : Tl B a c l l2 T2 :=
 ⟨k.own, h.only.old k.only h.blk, fun j hj => by
  rcases k.blk j hj with h1 | h1
  ·exact h.blk j h1
  ·exact .inr (Nat.le_trans h.only.size h1)⟩
theorem Tl.pre {B : Nat} {a b c : World} {l l2 : Value} {T2 : List (Tk × Int)} (h : Below a.heap.size a b) (k : Tl B b c l l2 T2) : Tl B a c l l2 T2 :=
 ⟨k.own, (zQd h).trans k.only, fun j hj => by
  rcases k.blk j hj with h1 | h1
  ·exact .inl h1
  ·exact .inr (Nat.le_trans h.size h1)⟩
theorem Tl.post {B : Nat} {a b c : World} {l l2 : Value} {T2 : List (Tk × Int)} (k : Tl B a b l l2 T2) (h : Below b.heap.size b c) : Tl B a c l l2 T2 :=
 ⟨zXk k.own h, k.only.trans (zQd h), k.blk⟩
theorem zZb {B n m g cap H : Nat} {w w5 : World} {l : Value} {T N : List (Tk × Int)} (hown : w5.ownsRow B 95 4 (.slice (some ⟨g, 0, none⟩) (n + m) cap) (n + m) (zQl T ++ zQl N)) (hn : n = T.length) (hm : m = N.length)
 (hg : w.grownBy w5 l.ownBlock) (hat : l.ownBlock = some g ∨ g = H) (hH : w.heap.size = H) : Tl B w w5 l (.slice (some ⟨g, 0, none⟩) (n + m) cap) (T ++ N) := by
 subst hn hm hH
 refine ⟨by rw [List.length_append, cellsZ_app]; exact hown, (zXc hg).mono fun j hj => hj.symm, fun j hj => ?_⟩
 simp only [Value.ownBlock, Option.some.injEq] at hj
 subst hj
 rcases hat with h | h
 ·exact .inl h
 ·exact .inr (Nat.le_of_eq h.symm)
def zs (T : List Tk) : List (Tk × Int) := T.map fun t => (t, 0)
theorem zZn (T : List Tk) : (zs T).length = T.length := by simp [zs]
theorem xJe (a b : List Tk) : zs (a ++ b) = zs a ++ zs b := by simp [zs]
def tkC (k : Int) (s : ByteArray) (n : Int) : List Value := [.int .u8 k, .string s, .int .u64 n, .int .i64 0]
theorem tell_num (n : Nat) (ma : Option Addr) (cap : Nat) (B : Nat) (l : Value) (T : List (Tk × Int)) (w : World) (ho : w.ownsRow B 95 4 l T.length (zQl T)) (hB : B ≤ w.heap.size) (hl : T.length ≤ 1000000) :
 Calls Tryz.prog 165 #[l, .agg #[.int .u8 1, .int .u64 (n : Int), .string ⟨#[]⟩, .int .u8 0, .slice ma 0 cap]] w fun r w' => ∃ l', r = .returned l' ∧ Tl B w w' l l' (T ++ zs [⟨3, [], n⟩]) := by
 obtain ⟨i0, hi, hz0, hz1, hz2⟩ := info_parts yZr
 obtain ⟨M, hM⟩ : ∃ M, M = T.length := ⟨_, rfl⟩
 rw [← hM] at ho hl
 have HM := Lib.hid hM
 clear hM
 go_enter Tryz.func165, Tryz.ntmps165
 go_wp2_with (first | (go_at_call 184; ((with_reducible refine (yZn n _).mono ?_); (rintro e w1 ⟨rfl, hb⟩); have ho1 := zXk (ho.alloc _) hb; have hB1 : Below w.heap.size w w1 := tr (aB (Below.refl _ _) _) hb)) | (at_builtin; refine wpList_append_lies _ rfl _ _ 62 rfl B 95 i0 _ 4 40 Tryz.underlying62 hi hz0 hz1 hz2 rfl (by decide) l M (zQl T) rfl (ho1.alloc _) ⟨w1.heap.size, 0, none⟩ 1 1 (zQl (zs [⟨3, [], n⟩])) rfl rfl ?cN ?c0 (by decide) ?c1 ?c2 ?c3 _ rfl ?_))
 case cN => exact zXe (zQl (zs [⟨3, [], n⟩])) 95 w1
 case c0 => exact zXr _
 case c1 => unfold maxLen; omega
 case c2 => omega
 case c3 => have h1 := hB1.size; simp; omega
 intro g cap' w5 hown hgrow hat hlt
 go_wp2
 go_ret
 exact ⟨_, rfl, (zZb hown HM.out rfl hgrow hat (by simp)).pre (aB hB1 _)⟩
theorem signOf_es (o : Nat) (ho : o < 256) (w : World) (hT : zKf w) : Calls Tryz.prog 187 #[.int .u8 (o : Int)] w fun e w' => e = .returned (.string (str (opS o))) ∧ w' = w := by
 have hw : IntKind.i64.wrap (o : Int) = (o : Int) := by rw [IntKind.wrap_i64]; omega
 go_enter Tryz.func187, Tryz.ntmps187
 by_cases h : o < 15
 ·have c0 := hT o h
  have hb := World.block_lt_of_cell? w _ c0
  go_wp2
  go_ret
  exact ⟨rfl, rfl⟩
 ·have e : opS o = [] := xZn (by omega)
  rw [e]
  go_wp2
  go_ret
  exact ⟨rfl, rfl⟩
theorem yXn {S : Nat → Prop} {w w' : World} (h : zKf w) (ho : Only S w w') (hn : ¬ S 9) : zKf w' := fun j hj => ho.cell hn (h j hj)
theorem zQz {w : World} {B n : Nat} {e : TypeId} {size : Nat} {l : Value} {xs : List Value} {c : Nat} (h : w.ownsRow B e size l n xs) (hc : w.heap.size ≤ c ∨ c < B) : l.ownBlock ≠ some c := fun e => by
 have := zQu h e
 omega
theorem Tl.apart {B : Nat} {a b : World} {l l' : Value} {T : List (Tk × Int)} (h : Tl B a b l l' T) {c : Nat} (hc : c < a.heap.size) (hn : l.ownBlock ≠ some c) : l'.ownBlock ≠ some c := fun e => by
 rcases h.blk c e with h1 | h1
 ·exact hn h1
 ·omega
def jZg (d : Nat) : Prop := ∀ (x : Xp) (v l : Value) (T : List (Tk × Int)) (B : Nat) (w : World), mayB d x = true → IsE (fun b => b < B) w v x → w.ownsRow B 95 4 l T.length (zQl T) → B ≤ w.heap.size → T.length + 5 * x.nodes ≤ 1000000 → zKf w → 9 < B →
 Calls Tryz.prog 165 #[l, v] w fun r w' => ∃ l', r = .returned l' ∧ Tl B w w' l l' (T ++ zs (zQw d x))
theorem yJg : ∀ (d : Nat) (x : Xp), mayB d x = true → (zQw d x).length ≤ 5 * x.nodes := by
 intro d
 induction d with
 | zero => intro x h; simp [mayB] at h
 | succ d ih =>
  intro x h
  obtain ⟨k, n, s, o, l⟩ := x
  rw [mayB, Bool.and_eq_true] at h
  obtain ⟨hf, hl⟩ := h
  have hk := xQu hf
  rw [Xp.nodes]
  rcases hk with rfl | rfl | rfl | rfl | rfl
  ·simp [zQw]; omega
  ·simp [zQw]; omega
  ·obtain ⟨rfl, rfl, ho, hm⟩ := fit3 hf
   match l, hm with
   | [a, b], _ =>
    simp only [List.all_cons, List.all_nil, Bool.and_true, Bool.and_eq_true] at hl
    have ia := ih a hl.1
    have ib := ih b hl.2
    rw [show zQw (d + 1) (.mk 3 0 [] o [a, b]) = sg [40] :: (zQw d a ++ sg (opS o) :: (zQw d b ++ [sg [41]])) from rfl]
    simp only [zXv, List.length_cons, List.length_append, List.length_nil]
    omega
  ·simp [zQw]; omega
  ·obtain ⟨rfl, hn, rfl, hm⟩ := fit5 hf
   match l, hm with
   | [a], _ =>
    simp only [List.all_cons, List.all_nil, Bool.and_true] at hl
    have ia := ih a hl
    rw [show zQw (d + 1) (.mk 5 0 s 0 [a]) = nmT s :: sg [91] :: (zQw d a ++ [sg [93]]) from rfl]
    simp only [zXv, List.length_cons, List.length_append, List.length_nil]
    omega
theorem tell_var (s : List UInt8) (ma : Option Addr) (cap : Nat) (B : Nat) (l : Value) (T : List (Tk × Int)) (w : World) (ho : w.ownsRow B 95 4 l T.length (zQl T)) (hB : B ≤ w.heap.size) (hl : T.length ≤ 1000000) :
 Calls Tryz.prog 165 #[l, .agg #[.int .u8 2, .int .u64 0, .string (str s), .int .u8 0, .slice ma 0 cap]] w fun r w' => ∃ l', r = .returned l' ∧ Tl B w w' l l' (T ++ zs [nmT s]) := by
 obtain ⟨i0, hi, hz0, hz1, hz2⟩ := info_parts yZr
 obtain ⟨M, hM⟩ : ∃ M, M = T.length := ⟨_, rfl⟩
 rw [← hM] at ho hl
 have HM := Lib.hid hM
 clear hM
 go_enter Tryz.func165, Tryz.ntmps165
 go_wp2_with (first | (go_at_call 185; ((with_reducible refine (yZd (str s) _).mono ?_); (rintro e w1 ⟨rfl, hb⟩); have ho1 := zXk (ho.alloc _) hb; have hB1 : Below w.heap.size w w1 := tr (aB (Below.refl _ _) _) hb)) | (at_builtin; refine wpList_append_lies _ rfl _ _ 62 rfl B 95 i0 _ 4 40 Tryz.underlying62 hi hz0 hz1 hz2 rfl (by decide) l M (zQl T) rfl (ho1.alloc _) ⟨w1.heap.size, 0, none⟩ 1 1 (zQl (zs [nmT s])) rfl rfl ?cN ?c0 (by decide) ?c1 ?c2 ?c3 _ rfl ?_))
 case cN => exact zXe (zQl (zs [nmT s])) 95 w1
 case c0 => exact zXr _
 case c1 => unfold maxLen; omega
 case c2 => omega
 case c3 => have h1 := hB1.size; simp; omega
 intro g cap' w5 hown hgrow hat hlt
 go_wp2
 go_ret
 exact ⟨_, rfl, (zZb hown HM.out rfl hgrow hat (by simp)).pre (aB hB1 _)⟩
theorem yZy {B : Nat} {w W c w5 : World} {l l' : Value} {T : List (Tk × Int)} (hBw : Below w.heap.size w W) (hF : Only (fun j => l.ownBlock = some j) W c) (h : Tl B c w5 l l' T) : Tl B w w5 l l' T :=
 ⟨h.own, ((zQd hBw).trans hF).trans h.only, fun j hj => by
  rcases h.blk j hj with h1 | h1
  ·exact .inl h1
  ·exact .inr (Nat.le_trans hBw.size (Nat.le_trans hF.size h1))⟩
theorem tell_4 (s : List UInt8) (ma : Option Addr) (cap : Nat) (B : Nat) (l : Value) (T : List (Tk × Int)) (w : World) (ho : w.ownsRow B 95 4 l T.length (zQl T)) (hB : B ≤ w.heap.size) (hl : T.length ≤ 1000000) :
 Calls Tryz.prog 165 #[l, .agg #[.int .u8 4, .int .u64 0, .string (str s), .int .u8 0, .slice ma 0 cap]] w fun r w' => ∃ l', r = .returned l' ∧ Tl B w w' l l' (T ++ zs [sg [35], nmT s]) := by
 obtain ⟨i0, hi, hz0, hz1, hz2⟩ := info_parts yZr
 obtain ⟨M, hM⟩ : ∃ M, M = T.length := ⟨_, rfl⟩
 rw [← hM] at ho hl
 have HM := Lib.hid hM
 clear hM
 go_enter Tryz.func165, Tryz.ntmps165
 go_wp2
 obtain ⟨W, hW⟩ : ∃ W, w.alloc (.cells #[.int .u8 4, .int .u64 0, .string (str s), .int .u8 0, .slice ma 0 cap] 47) = W := ⟨_, rfl⟩
 have hBw : Below w.heap.size w W := by rw [← hW]; exact aB (Below.refl _ _) _
 have hn0 : l.ownBlock ≠ some w.heap.size := zQz ho (.inl (Nat.le_refl _))
 have hoW : W.drew.ownsRow B 95 4 l M (zQl T) := zQy (zXk ho hBw) (od1 (S := fun _ => False)) (fun _ _ h => h)
 have hBW : B ≤ W.heap.size := Nat.le_trans hB hBw.size
 have c2 : W.cell? ⟨w.heap.size, 2, none⟩ = some (.string (str s)) := by rw [← hW]; exact zQp _ _ _ 2
 rw [hW]
 clear hW
 have hFi : ∀ w', Only (fun j => l.ownBlock = some j) W w' → w'.cell? ⟨w.heap.size, 2, none⟩ = some (.string (str s)) := fun w' h => h.cell hn0 c2
 have hF0 : Only (fun j => l.ownBlock = some j) W W.drew := od1
 refine zXi (fun w' => Only (fun j => l.ownBlock = some j) W w') (by kernel_rfl) ?_
 have q : Pq [0, 2, 3] := trivial
 iterate 3
  refine tkN q rfl (by kernel_rfl) hF0 fun K hK => ?_
  replace q := q.tl
  apply Exists.intro
  refine ⟨Or.inl ⟨by kernel_rfl, fun w' hf => ?_⟩, ?_⟩
  ·have s2 := hFi _ hf
   go_simp
   try exact rfl
  go_simp
  refine hK _ ?_
  clear hK K
 refine zQe (k := 1) (by kernel_rfl) ?_
 refine wpOp_step rfl (fun K hK => ?_)
 go_simp
 go_at_call 186
 with_reducible refine (zJp _ _).mono ?_
 rintro e v1 ⟨rfl, hb1⟩
 have hF1 := Only.trans hF0 (zQd hb1)
 have ho1 := zXk hoW hb1
 refine hK _ _ ⟨hF1, ?_⟩
 clear hK K
 refine zQe (k := 4) (by kernel_rfl) ?_
 refine wpOp_step rfl (fun K hK => ?_)
 go_simp
 go_at_call 185
 with_reducible refine (yZd _ _).mono ?_
 rintro e v2 ⟨rfl, hb2⟩
 have hF2 := Only.trans hF1 (zQd hb2)
 have ho2 := zXk ho1 hb2
 refine hK _ _ ⟨hF2, ?_⟩
 clear hK K
 refine zQe (k := 5) (by kernel_rfl) ?_
 refine wpOp_step rfl (fun K hK => ?_)
 go_simp
 have hF3 : Only (fun j => l.ownBlock = some j) W (v2.alloc (.cells (zQl (zs [sg [35], nmT s])).toArray 95)) := Only.trans hF2 (zQd (aB (Below.refl _ _) _))
 have ho3 : (v2.alloc (.cells (zQl (zs [sg [35], nmT s])).toArray 95)).ownsRow B 95 4 l M (zQl T) := World.ownsRow.alloc ho2 _
 refine hK _ _ ⟨hF3, ?_⟩
 clear hK K
 refine zQe (k := 6) (by kernel_rfl) ?_
 refine wpOp_step rfl (fun K hK => ?_)
 refine step_append_lies _ rfl (.tmp 25) (.tmp 30) 62 rfl B 95 i0 _ 4 40 Tryz.underlying62 hi hz0 hz1 hz2 rfl (by decide) l M (zQl T) rfl ho3 ⟨v2.heap.size, 0, none⟩ 2 2 (zQl (zs [sg [35], nmT s])) rfl rfl (zXe (zQl (zs [sg [35], nmT s])) 95 v2) (zXr _) (by decide) (by unfold maxLen; omega) (by omega) (Nat.le_trans hBW hF3.size) _ rfl ?_
 intro g cap' v4 hown hgrow hat hlt
 have hT4 := zZb hown HM.out rfl hgrow hat rfl
 have hF4 := Only.trans hF3 hT4.only
 go_simp
 refine hK _ _ ⟨hF4, ?_⟩
 clear hK K
 refine zQe (k := 7) (by kernel_rfl) ?_
 refine wpOp_step rfl (fun K hK => ?_)
 go_simp
 refine hK _ _ ⟨hF4, ?_⟩
 clear hK K
 refine zQq (by kernel_rfl) ⟨rfl, ?_⟩
 go_wp2
 go_ret
 exact ⟨_, rfl, yZy hBw hF3 hT4⟩
structure KidIn (B : Nat) (w : World) (b off : Nat) (x : Xp) (ma : Option Addr) (cap : Nat) : Prop where
 lt : b < B
 c0 : w.cell? ⟨b, off, none⟩ = some (.int .u8 (x.k : Int))
 c1 : w.cell? ⟨b, off + 1, none⟩ = some (.int .u64 (x.n : Int))
 c2 : w.cell? ⟨b, off + 2, none⟩ = some (.string (str x.s))
 c3 : w.cell? ⟨b, off + 3, none⟩ = some (.int .u8 (x.o : Int))
 c4 : w.cell? ⟨b, off + 4, none⟩ = some (.slice ma x.l.length cap)
 is : IsE (fun b => b < B) w (.agg #[.int .u8 (x.k : Int), .int .u64 (x.n : Int), .string (str x.s), .int .u8 (x.o : Int), .slice ma x.l.length cap]) x
theorem KidIn.only {B : Nat} {w w' : World} {b off : Nat} {x : Xp} {ma : Option Addr} {cap : Nat} {S : Nat → Prop} (h : KidIn B w b off x ma cap) (ho : Only S w w') (hs : ∀ c, c < B → ¬ S c) : KidIn B w' b off x ma cap :=
 ⟨h.lt, ho.cell (hs _ h.lt) h.c0, ho.cell (hs _ h.lt) h.c1, ho.cell (hs _ h.lt) h.c2, ho.cell (hs _ h.lt) h.c3, ho.cell (hs _ h.lt) h.c4, h.is.only ho hs⟩
theorem KidIn.lt' {B : Nat} {w : World} {b off : Nat} {x : Xp} {ma : Option Addr} {cap : Nat} (h : KidIn B w b off x ma cap) : b < w.heap.size := World.block_lt_of_cell? w _ h.c0
theorem yXb {B : Nat} {w : World} {l : List Xp} {b off : Nat} (h : KidsAt (fun b => b < B) w l (some ⟨b, off, none⟩)) (i : Nat) (hi : i < l.length) : ∃ ma cap, KidIn B w b (off + i * 5) l[i] ma cap := by
 have hk := zKk l b off h i hi
 obtain ⟨ma, cap, c0, c1, c2, c3, c4, he⟩ := hk.isE
 obtain ⟨_, _, hg, _⟩ := hk.kid
 exact ⟨ma, cap, hg, c0, c1, c2, c3, c4, he⟩
theorem yJu {B n : Nat} {w : World} {e : TypeId} {size : Nat} {l : Value} {xs : List Value} (h : w.ownsRow B e size l n xs) : ∀ c, c < B → ¬ l.ownBlock = some c := fun c hc => zQz h (.inr hc)
theorem tell_5 (d : Nat) (hIH : jZg d) (x : Xp) (hmx : mayB d x = true) (s : List UInt8) (b off cap : Nat) (ma : Option Addr) (cap0 : Nat) (B : Nat) (l : Value) (T : List (Tk × Int)) (w : World) (ho : w.ownsRow B 95 4 l T.length (zQl T)) (hB : B ≤ w.heap.size) (hK : KidIn B w b off x ma cap0) (hl : T.length + 5 * (1 + x.nodes) ≤ 1000000) (hES0 : zKf w) (hgB : 9 < B) :
 Calls Tryz.prog 165 #[l, .agg #[.int .u8 5, .int .u64 0, .string (str s), .int .u8 0, .slice (some ⟨b, off, none⟩) 1 cap]] w fun r w' => ∃ l', r = .returned l' ∧ Tl B w w' l l' (T ++ zs (nmT s :: sg [91] :: (zQw d x ++ [sg [93]]))) := by
 have htl := yJg d x hmx
 obtain ⟨i0, hi, hz0, hz1, hz2⟩ := info_parts yZr
 obtain ⟨M, hM⟩ : ∃ M, M = T.length := ⟨_, rfl⟩
 rw [← hM] at ho hl
 have HM := Lib.hid hM
 clear hM
 go_enter Tryz.func165, Tryz.ntmps165
 go_wp2
 obtain ⟨W, hW⟩ : ∃ W, w.alloc (.cells #[.int .u8 5, .int .u64 0, .string (str s), .int .u8 0, .slice (some ⟨b, off, none⟩) 1 cap] 47) = W := ⟨_, rfl⟩
 have hBw : Below w.heap.size w W := by rw [← hW]; exact aB (Below.refl _ _) _
 have hoW0 : W.ownsRow B 95 4 l M (zQl T) := zXk ho hBw
 have hn0 : ¬ l.ownBlock = some w.heap.size := zQz ho (.inl (Nat.le_refl _))
 have hap := yJu ho
 have hBW : B ≤ W.heap.size := Nat.le_trans hB hBw.size
 have b2 : W.cell? ⟨w.heap.size, 2, none⟩ = some (.string (str s)) := by rw [← hW]; exact zQp _ _ _ 2
 have b4 : W.cell? ⟨w.heap.size, 4, none⟩ = some (.slice (some ⟨b, off, none⟩) 1 cap) := by rw [← hW]; exact zQp _ _ _ 4
 have hzW : w.heap.size < W.heap.size := by rw [← hW]; simp
 rw [hW]
 clear hW
 have hoW : W.drew.ownsRow B 95 4 l M (zQl T) := zQy hoW0 (od1 (S := fun _ => False)) (fun _ _ h => h)
 have hKW := hK.only (zQd (S := fun _ => False) hBw) (fun _ _ h => h)
 have hES := yXn hES0 (zQd (S := fun _ => False) hBw) (fun h => h)
 have hFi : ∀ w', Only (fun j => l.ownBlock = some j) W w' → w'.cell? ⟨w.heap.size, 2, none⟩ = some (.string (str s)) ∧ w'.cell? ⟨w.heap.size, 4, none⟩ = some (.slice (some ⟨b, off, none⟩) 1 cap) ∧ w'.cell? ⟨b, off, none⟩ = some (.int .u8 (x.k : Int)) ∧ w'.cell? ⟨b, off + 1, none⟩ = some (.int .u64 (x.n : Int)) ∧ w'.cell? ⟨b, off + 2, none⟩ = some (.string (str x.s)) ∧ w'.cell? ⟨b, off + 3, none⟩ = some (.int .u8 (x.o : Int)) ∧ w'.cell? ⟨b, off + 4, none⟩ = some (.slice ma x.l.length cap0) ∧ b < w'.heap.size :=
  fun w' h => ⟨h.cell hn0 b2, h.cell hn0 b4, (hKW.only h hap).c0, (hKW.only h hap).c1, (hKW.only h hap).c2, (hKW.only h hap).c3, (hKW.only h hap).c4, (hKW.only h hap).lt'⟩
 have hF0 : Only (fun j => l.ownBlock = some j) W W.drew := od1
 refine zXi (fun w' => Only (fun j => l.ownBlock = some j) W w') (by kernel_rfl) ?_
 have q : Pq [0, 1, 2, 7, 8, 9, 10] := trivial
 iterate 7
  refine tkN q rfl (by kernel_rfl) hF0 fun K hK => ?_
  replace q := q.tl
  apply Exists.intro
  refine ⟨Or.inl ⟨by kernel_rfl, fun w' hf => ?_⟩, ?_⟩
  ·obtain ⟨s2, s4, k0, k1, k2, k3, k4, kl⟩ := hFi _ hf
   go_simp
   try exact rfl
  go_simp
  refine hK _ ?_
  clear hK K
 refine zQe (k := 3) (by kernel_rfl) ?_
 refine wpOp_step rfl (fun K hK => ?_)
 go_simp
 go_at_call 185
 with_reducible refine (yZd _ _).mono ?_
 rintro e v1 ⟨rfl, hb1⟩
 have hF1 := Only.trans hF0 (zQd hb1)
 have ho1 := zXk hoW hb1
 refine hK _ _ ⟨hF1, ?_⟩
 clear hK K
 refine zQe (k := 4) (by kernel_rfl) ?_
 refine wpOp_step rfl (fun K hK => ?_)
 go_simp
 go_at_call 186
 with_reducible refine (zJp _ _).mono ?_
 rintro e v2 ⟨rfl, hb2⟩
 have hF2 := Only.trans hF1 (zQd hb2)
 have ho2 := zXk ho1 hb2
 refine hK _ _ ⟨hF2, ?_⟩
 clear hK K
 refine zQe (k := 5) (by kernel_rfl) ?_
 refine wpOp_step rfl (fun K hK => ?_)
 go_simp
 have hF3 : Only (fun j => l.ownBlock = some j) W (v2.alloc (.cells (zQl (zs [nmT s, sg [91]])).toArray 95)) := Only.trans hF2 (zQd (aB (Below.refl _ _) _))
 have ho3 : (v2.alloc (.cells (zQl (zs [nmT s, sg [91]])).toArray 95)).ownsRow B 95 4 l M (zQl T) := World.ownsRow.alloc ho2 _
 refine hK _ _ ⟨hF3, ?_⟩
 clear hK K
 refine zQe (k := 6) (by kernel_rfl) ?_
 refine wpOp_step rfl (fun K hK => ?_)
 refine step_append_lies _ rfl (.tmp 34) (.tmp 39) 62 rfl B 95 i0 _ 4 40 Tryz.underlying62 hi hz0 hz1 hz2 rfl (by decide) l M (zQl T) rfl ho3 ⟨v2.heap.size, 0, none⟩ 2 2 (zQl (zs [nmT s, sg [91]])) rfl rfl (zXe (zQl (zs [nmT s, sg [91]])) 95 v2) (zXr _) (by decide) (by unfold maxLen; omega) (by omega) (Nat.le_trans hBW hF3.size) _ rfl ?_
 intro g cap' v4 hown hgrow hat hlt
 have hT4 := zZb hown HM.out rfl hgrow hat rfl
 have hF4 := Only.trans hF3 hT4.only
 go_simp
 refine hK _ _ ⟨hF4, ?_⟩
 clear hK K
 refine zQe (k := 11) (by kernel_rfl) ?_
 refine wpOp_step rfl (fun K hK => ?_)
 go_simp
 have hIk := hIH x (.agg #[.int .u8 (x.k : Int), .int .u64 (x.n : Int), .string (str x.s), .int .u8 (x.o : Int), .slice ma x.l.length cap0]) _ (T ++ zs [nmT s, sg [91]]) B v4 hmx (hKW.only hF4 hap).is hT4.own (Nat.le_trans hBW hF4.size) (by simp only [List.length_append, zZn, List.length_cons, List.length_nil, ← HM.out]; omega) (yXn hES hF4 (hap _ hgB)) hgB
 go_at_call 165
 with_reducible refine hIk.mono ?_
 rintro e v5 ⟨l5, rfl, hU5⟩
 have hT5 := Tl.trans hT4 hU5
 have hF5 := Only.trans hF3 hT5.only
 clear hU5 hIk
 refine hK _ _ ⟨hF5, ?_⟩
 clear hK K
 refine zQe (k := 12) (by kernel_rfl) ?_
 refine wpOp_step rfl (fun K hK => ?_)
 go_simp
 refine hK _ _ ⟨hF5, ?_⟩
 clear hK K
 refine zQq (by kernel_rfl) ⟨rfl, ?_⟩
 clear hFi
 have hz5 := hBw.size
 have hz6 := Only.size hF5
 have hlM := congrArg List.length (rfl : (T ++ zs [nmT s, sg [91]] ++ zs (zQw d x)) = (T ++ zs [nmT s, sg [91]] ++ zs (zQw d x)))
 obtain ⟨T5, hT5e⟩ : ∃ T5, T5 = (T ++ zs [nmT s, sg [91]] ++ zs (zQw d x)) := ⟨_, rfl⟩
 have hlT5 : T5.length ≤ 1000000 := by rw [hT5e]; simp only [List.length_append, zZn, List.length_cons, List.length_nil, ← HM.out]; omega
 rw [← hT5e] at hT5
 have HT5 := Lib.hid hT5e
 clear hT5e hlM
 obtain ⟨M5, hM5⟩ : ∃ M5, M5 = T5.length := ⟨_, rfl⟩
 have ho5 := hT5.own
 rw [← hM5] at ho5 hlT5
 have HM5 := Lib.hid hM5
 clear hM5
 go_wp2_with (first | (go_at_call 186; ((with_reducible refine (zJp _ _).mono ?_); (rintro e y1 ⟨rfl, hby⟩); have hoy := zXk ho5 hby)) | (at_builtin; refine wpList_append_lies _ rfl _ _ 62 rfl B 95 i0 _ 4 40 Tryz.underlying62 hi hz0 hz1 hz2 rfl (by decide) l5 M5 (zQl T5) rfl (hoy.alloc _) ⟨y1.heap.size, 0, none⟩ 1 1 (zQl (zs [sg [93]])) rfl rfl ?cN ?c0 (by decide) ?c1 ?c2 ?c3 _ rfl ?_))
 case cN => exact zXe (zQl (zs [sg [93]])) 95 y1
 case c0 => exact zXr _
 case c1 => unfold maxLen; omega
 case c2 => omega
 case c3 => have h1 := hby.size; simp; omega
 intro g2 cap2 y5 hown2 hgrow2 hat2 hlt2
 go_wp2
 go_ret
 have hTz := (hT5.post (aB hby _)).trans (zZb hown2 HM5.out rfl hgrow2 hat2 (by simp))
 rw [HT5.out] at hTz
 refine ⟨_, rfl, ?_⟩
 have hTy := yZy hBw hF3 hTz
 rw [show T ++ zs (nmT s :: sg [91] :: (zQw d x ++ [sg [93]])) = (T ++ zs [nmT s, sg [91]] ++ zs (zQw d x)) ++ zs [sg [93]] from by simp [zs]]
 exact hTy
theorem tell_3 (d : Nat) (hIH : jZg d) (x y : Xp) (hmx : mayB d x = true) (hmy : mayB d y = true) (o : Nat) (ho256 : o < 256) (b off cap : Nat) (ma : Option Addr) (cap0 : Nat) (mb : Option Addr) (cap1 : Nat) (B : Nat) (l : Value) (T : List (Tk × Int)) (w : World) (ho : w.ownsRow B 95 4 l T.length (zQl T)) (hB : B ≤ w.heap.size) (hK : KidIn B w b off x ma cap0) (hK1 : KidIn B w b (off + 5) y mb cap1) (hl : T.length + 5 * (1 + (x.nodes + y.nodes)) ≤ 1000000) (hES0 : zKf w) (hgB : 9 < B) :
 Calls Tryz.prog 165 #[l, .agg #[.int .u8 3, .int .u64 0, .string ⟨#[]⟩, .int .u8 (o : Int), .slice (some ⟨b, off, none⟩) 2 cap]] w fun r w' => ∃ l', r = .returned l' ∧ Tl B w w' l l' (T ++ zs (sg [40] :: (zQw d x ++ sg (opS o) :: (zQw d y ++ [sg [41]])))) := by
 have htl := yJg d x hmx
 have htl1 := yJg d y hmy
 obtain ⟨i0, hi, hz0, hz1, hz2⟩ := info_parts yZr
 obtain ⟨M, hM⟩ : ∃ M, M = T.length := ⟨_, rfl⟩
 rw [← hM] at ho hl
 have HM := Lib.hid hM
 clear hM
 go_enter Tryz.func165, Tryz.ntmps165
 go_wp2
 obtain ⟨W, hW⟩ : ∃ W, w.alloc (.cells #[.int .u8 3, .int .u64 0, .string ⟨#[]⟩, .int .u8 (o : Int), .slice (some ⟨b, off, none⟩) 2 cap] 47) = W := ⟨_, rfl⟩
 have hBw : Below w.heap.size w W := by rw [← hW]; exact aB (Below.refl _ _) _
 have hoW0 : W.ownsRow B 95 4 l M (zQl T) := zXk ho hBw
 have hn0 : ¬ l.ownBlock = some w.heap.size := zQz ho (.inl (Nat.le_refl _))
 have hap := yJu ho
 have hBW : B ≤ W.heap.size := Nat.le_trans hB hBw.size
 have b3 : W.cell? ⟨w.heap.size, 3, none⟩ = some (.int .u8 (o : Int)) := by rw [← hW]; exact zQp _ _ _ 3
 have b4 : W.cell? ⟨w.heap.size, 4, none⟩ = some (.slice (some ⟨b, off, none⟩) 2 cap) := by rw [← hW]; exact zQp _ _ _ 4
 have hzW : w.heap.size < W.heap.size := by rw [← hW]; simp
 rw [hW]
 clear hW
 have hoW : W.drew.ownsRow B 95 4 l M (zQl T) := zQy hoW0 (od1 (S := fun _ => False)) (fun _ _ h => h)
 have hKW := hK.only (zQd (S := fun _ => False) hBw) (fun _ _ h => h)
 have hKW1 := hK1.only (zQd (S := fun _ => False) hBw) (fun _ _ h => h)
 have hES := yXn hES0 (zQd (S := fun _ => False) hBw) (fun h => h)
 have hFi : ∀ w', Only (fun j => l.ownBlock = some j) W w' → w'.cell? ⟨w.heap.size, 4, none⟩ = some (.slice (some ⟨b, off, none⟩) 2 cap) ∧ w'.cell? ⟨b, off, none⟩ = some (.int .u8 (x.k : Int)) ∧ w'.cell? ⟨b, off + 1, none⟩ = some (.int .u64 (x.n : Int)) ∧ w'.cell? ⟨b, off + 2, none⟩ = some (.string (str x.s)) ∧ w'.cell? ⟨b, off + 3, none⟩ = some (.int .u8 (x.o : Int)) ∧ w'.cell? ⟨b, off + 4, none⟩ = some (.slice ma x.l.length cap0) ∧ b < w'.heap.size :=
  fun w' h => ⟨h.cell hn0 b4, (hKW.only h hap).c0, (hKW.only h hap).c1, (hKW.only h hap).c2, (hKW.only h hap).c3, (hKW.only h hap).c4, (hKW.only h hap).lt'⟩
 have hF0 : Only (fun j => l.ownBlock = some j) W W.drew := od1
 refine zXi (fun w' => Only (fun j => l.ownBlock = some j) W w') (by kernel_rfl) ?_
 have q : Pq [0, 4, 5, 6, 7] := trivial
 iterate 5
  refine tkN q rfl (by kernel_rfl) hF0 fun K hK => ?_
  replace q := q.tl
  apply Exists.intro
  refine ⟨Or.inl ⟨by kernel_rfl, fun w' hf => ?_⟩, ?_⟩
  ·obtain ⟨s4, k0, k1, k2, k3, k4, kl⟩ := hFi _ hf
   go_simp
   try exact rfl
  go_simp
  refine hK _ ?_
  clear hK K
 refine zQe (k := 1) (by kernel_rfl) ?_
 refine wpOp_step rfl (fun K hK => ?_)
 go_simp
 go_at_call 186
 with_reducible refine (zJp _ _).mono ?_
 rintro e v1 ⟨rfl, hb1⟩
 have hF1 := Only.trans hF0 (zQd hb1)
 have ho1 := zXk hoW hb1
 refine hK _ _ ⟨hF1, ?_⟩
 clear hK K
 refine zQe (k := 2) (by kernel_rfl) ?_
 refine wpOp_step rfl (fun K hK => ?_)
 go_simp
 have hF2 : Only (fun j => l.ownBlock = some j) W (v1.alloc (.cells (zQl (zs [sg [40]])).toArray 95)) := Only.trans hF1 (zQd (aB (Below.refl _ _) _))
 have ho2 : (v1.alloc (.cells (zQl (zs [sg [40]])).toArray 95)).ownsRow B 95 4 l M (zQl T) := World.ownsRow.alloc ho1 _
 refine hK _ _ ⟨hF2, ?_⟩
 clear hK K
 refine zQe (k := 3) (by kernel_rfl) ?_
 refine wpOp_step rfl (fun K hK => ?_)
 refine step_append_lies _ rfl (.tmp 50) (.tmp 52) 62 rfl B 95 i0 _ 4 40 Tryz.underlying62 hi hz0 hz1 hz2 rfl (by decide) l M (zQl T) rfl ho2 ⟨v1.heap.size, 0, none⟩ 1 1 (zQl (zs [sg [40]])) rfl rfl (zXe (zQl (zs [sg [40]])) 95 v1) (zXr _) (by decide) (by unfold maxLen; omega) (by omega) (Nat.le_trans hBW hF2.size) _ rfl ?_
 intro g cap' v3 hown hgrow hat hlt
 have hT3 := zZb hown HM.out rfl hgrow hat rfl
 have hF3 := Only.trans hF2 hT3.only
 go_simp
 refine hK _ _ ⟨hF3, ?_⟩
 clear hK K
 refine zQe (k := 8) (by kernel_rfl) ?_
 refine wpOp_step rfl (fun K hK => ?_)
 go_simp
 have hIk := hIH x (.agg #[.int .u8 (x.k : Int), .int .u64 (x.n : Int), .string (str x.s), .int .u8 (x.o : Int), .slice ma x.l.length cap0]) _ (T ++ zs [sg [40]]) B v3 hmx (hKW.only hF3 hap).is hT3.own (Nat.le_trans hBW hF3.size) (by simp only [List.length_append, zZn, List.length_cons, List.length_nil, ← HM.out]; omega) (yXn hES hF3 (hap _ hgB)) hgB
 go_at_call 165
 with_reducible refine hIk.mono ?_
 rintro e v4 ⟨l4, rfl, hU4⟩
 have hT4 := Tl.trans hT3 hU4
 have hF4 := Only.trans hF2 hT4.only
 clear hU4 hIk
 refine hK _ _ ⟨hF4, ?_⟩
 clear hK K
 refine zQe (k := 9) (by kernel_rfl) ?_
 refine wpOp_step rfl (fun K hK => ?_)
 go_simp
 refine hK _ _ ⟨hF4, ?_⟩
 clear hK K
 refine zQq (by kernel_rfl) ⟨rfl, ?_⟩
 go_wp2
 clear hFi
 have hFx := hF4
 have hTx := yZy (Below.refl _ _) hF2 hT4
 have hap2 : ∀ c, c < B → ¬ l4.ownBlock = some c := yJu hTx.own
 have hn02 : ¬ l4.ownBlock = some w.heap.size := hTx.apart hzW hn0
 have hlX : (T ++ zs [sg [40]] ++ zs (zQw d x)).length + 5 * y.nodes + 4 ≤ 1000000 := by simp only [List.length_append, zZn, List.length_cons, List.length_nil, ← HM.out]; omega
 obtain ⟨T2, hT2e⟩ : ∃ T2, T2 = (T ++ zs [sg [40]] ++ zs (zQw d x)) := ⟨_, rfl⟩
 rw [← hT2e] at hTx hlX
 have HT2 := Lib.hid hT2e
 clear hT2e
 obtain ⟨M2, hM2⟩ : ∃ M2, M2 = T2.length := ⟨_, rfl⟩
 have hoX := hTx.own
 rw [← hM2] at hoX hlX
 have HM2 := Lib.hid hM2
 clear hM2 hi hz0 hz1 hz2
 obtain ⟨i0, hi, hz0, hz1, hz2⟩ := info_parts yZr
 obtain ⟨l6, hl6⟩ : ∃ l6, l6 = l4 := ⟨_, rfl⟩
 have c3 := hFx.cell hn0 b3
 have c4 := hFx.cell hn0 b4
 have hKX := hKW1.only hFx hap
 have hEX := yXn hES hFx (hap _ hgB)
 have hBX : B ≤ v4.heap.size := Nat.le_trans hBW hFx.size
 have hFi : ∀ w', Only (fun j => l4.ownBlock = some j) v4 w' → w'.cell? ⟨w.heap.size, 3, none⟩ = some (.int .u8 (o : Int)) ∧ w'.cell? ⟨w.heap.size, 4, none⟩ = some (.slice (some ⟨b, off, none⟩) 2 cap) ∧ w'.cell? ⟨b, off + 5, none⟩ = some (.int .u8 (y.k : Int)) ∧ w'.cell? ⟨b, off + 5 + 1, none⟩ = some (.int .u64 (y.n : Int)) ∧ w'.cell? ⟨b, off + 5 + 2, none⟩ = some (.string (str y.s)) ∧ w'.cell? ⟨b, off + 5 + 3, none⟩ = some (.int .u8 (y.o : Int)) ∧ w'.cell? ⟨b, off + 5 + 4, none⟩ = some (.slice mb y.l.length cap1) ∧ b < w'.heap.size := fun w' h => ⟨h.cell hn02 c3, h.cell hn02 c4, (hKX.only h hap2).c0, (hKX.only h hap2).c1, (hKX.only h hap2).c2, (hKX.only h hap2).c3, (hKX.only h hap2).c4, (hKX.only h hap2).lt'⟩
 have hG0 : Only (fun j => l4.ownBlock = some j) v4 v4.drew := od1
 have hoX1 : v4.drew.ownsRow B 95 4 l4 M2 (zQl T2) := zQy hoX (od1 (S := fun _ => False)) (fun _ _ h => h)
 have hz9 := hFx.size
 refine zXi (fun w' => Only (fun j => l4.ownBlock = some j) v4 w') (by kernel_rfl) ?_
 have q : Pq [0, 1, 2, 7, 8, 9, 10] := trivial
 iterate 7
  refine tkN q rfl (by kernel_rfl) hG0 fun K hK => ?_
  replace q := q.tl
  apply Exists.intro
  refine ⟨Or.inl ⟨by kernel_rfl, fun w' hf => ?_⟩, ?_⟩
  ·obtain ⟨s3, s4, k0, k1, k2, k3, k4, kl⟩ := hFi _ hf
   go_simp
   try exact rfl
  go_simp
  refine hK _ ?_
  clear hK K
 refine zQe (k := 3) (by kernel_rfl) ?_
 refine wpOp_step rfl (fun K hK => ?_)
 go_simp
 go_at_call 187
 with_reducible refine (signOf_es o ho256 _ (yXn hEX hG0 (hap2 _ hgB))).mono ?_
 rintro e v21 ⟨rfl, rfl⟩
 refine hK _ _ ⟨hG0, ?_⟩
 clear hK K
 refine zQe (k := 4) (by kernel_rfl) ?_
 refine wpOp_step rfl (fun K hK => ?_)
 go_simp
 go_at_call 186
 with_reducible refine (zJp _ _).mono ?_
 rintro e v22 ⟨rfl, hb22⟩
 have hF22 := Only.trans hG0 (zQd hb22)
 have ho22 := zXk hoX1 hb22
 refine hK _ _ ⟨hF22, ?_⟩
 clear hK K
 refine zQe (k := 5) (by kernel_rfl) ?_
 refine wpOp_step rfl (fun K hK => ?_)
 go_simp
 have hF23 : Only (fun j => l4.ownBlock = some j) v4 (v22.alloc (.cells (zQl (zs [sg (opS o)])).toArray 95)) := Only.trans hF22 (zQd (aB (Below.refl _ _) _))
 have ho23 : (v22.alloc (.cells (zQl (zs [sg (opS o)])).toArray 95)).ownsRow B 95 4 l4 M2 (zQl T2) := World.ownsRow.alloc ho22 _
 refine hK _ _ ⟨hF23, ?_⟩
 clear hK K
 refine zQe (k := 6) (by kernel_rfl) ?_
 refine wpOp_step rfl (fun K hK => ?_)
 refine step_append_lies _ rfl (.tmp 59) (.tmp 64) 62 rfl B 95 i0 _ 4 40 Tryz.underlying62 hi hz0 hz1 hz2 rfl (by decide) l4 M2 (zQl T2) rfl ho23 ⟨v22.heap.size, 0, none⟩ 1 1 (zQl (zs [sg (opS o)])) rfl rfl (zXe (zQl (zs [sg (opS o)])) 95 v22) (zXr _) (by decide) (by unfold maxLen; omega) (by omega) (Nat.le_trans hBX hF23.size) _ rfl ?_
 intro g cap' v24 hown hgrow hat hlt
 have hT24 := zZb hown HM2.out rfl hgrow hat rfl
 have hF24 := Only.trans hF23 hT24.only
 go_simp
 refine hK _ _ ⟨hF24, ?_⟩
 clear hK K
 refine zQe (k := 11) (by kernel_rfl) ?_
 refine wpOp_step rfl (fun K hK => ?_)
 go_simp
 have hIk := hIH y (.agg #[.int .u8 (y.k : Int), .int .u64 (y.n : Int), .string (str y.s), .int .u8 (y.o : Int), .slice mb y.l.length cap1]) _ (T2 ++ zs [sg (opS o)]) B v24 hmy (hKX.only hF24 hap2).is hT24.own (Nat.le_trans hBX hF24.size) (by simp only [List.length_append, zZn, List.length_cons, List.length_nil, ← HM2.out]; omega) (yXn hEX hF24 (hap2 _ hgB)) hgB
 go_at_call 165
 with_reducible refine hIk.mono ?_
 rintro e v25 ⟨l25, rfl, hU25⟩
 have hT25 := Tl.trans hT24 hU25
 have hF25 := Only.trans hF23 hT25.only
 clear hU25 hIk
 refine hK _ _ ⟨hF25, ?_⟩
 clear hK K
 refine zQe (k := 12) (by kernel_rfl) ?_
 refine wpOp_step rfl (fun K hK => ?_)
 go_simp
 refine hK _ _ ⟨hF25, ?_⟩
 clear hK K
 refine zQq (by kernel_rfl) ⟨rfl, ?_⟩
 clear hFi
 have hz6 := Only.size hF25
 have hlM := congrArg List.length (rfl : (T2 ++ zs [sg (opS o)] ++ zs (zQw d y)) = (T2 ++ zs [sg (opS o)] ++ zs (zQw d y)))
 obtain ⟨T5, hT5e⟩ : ∃ T5, T5 = (T2 ++ zs [sg (opS o)] ++ zs (zQw d y)) := ⟨_, rfl⟩
 have hlT5 : T5.length ≤ 1000000 := by rw [hT5e]; simp only [List.length_append, zZn, List.length_cons, List.length_nil, ← HM2.out]; omega
 rw [← hT5e] at hT25
 have HT5 := Lib.hid hT5e
 clear hT5e hlM
 obtain ⟨M5, hM5⟩ : ∃ M5, M5 = T5.length := ⟨_, rfl⟩
 have ho5 := hT25.own
 rw [← hM5] at ho5 hlT5
 have HM5 := Lib.hid hM5
 clear hM5
 go_wp2_with (first | (go_at_call 186; ((with_reducible refine (zJp _ _).mono ?_); (rintro e y1 ⟨rfl, hby⟩); have hoy := zXk ho5 hby)) | (at_builtin; refine wpList_append_lies _ rfl _ _ 62 rfl B 95 i0 _ 4 40 Tryz.underlying62 hi hz0 hz1 hz2 rfl (by decide) l25 M5 (zQl T5) rfl (hoy.alloc _) ⟨y1.heap.size, 0, none⟩ 1 1 (zQl (zs [sg [41]])) rfl rfl ?cN ?c0 (by decide) ?c1 ?c2 ?c3 _ rfl ?_))
 case cN => exact zXe (zQl (zs [sg [41]])) 95 y1
 case c0 => exact zXr _
 case c1 => unfold maxLen; omega
 case c2 => omega
 case c3 => have h1 := hby.size; simp; omega
 intro g2 cap2 y5 hown2 hgrow2 hat2 hlt2
 go_wp2
 go_ret
 have hTz := (hT25.post (aB hby _)).trans (zZb hown2 HM5.out rfl hgrow2 hat2 (by simp))
 rw [HT5.out] at hTz
 have hTy := hTx.trans (yZy (Below.refl _ _) hF23 hTz)
 rw [HT2.out] at hTy
 refine ⟨_, rfl, ?_⟩
 rw [show T ++ zs (sg [40] :: (zQw d x ++ sg (opS o) :: (zQw d y ++ [sg [41]]))) = (T ++ zs [sg [40]] ++ zs (zQw d x)) ++ zs [sg (opS o)] ++ zs (zQw d y) ++ zs [sg [41]] from by simp [zs]]
 exact hTy.pre hBw
def ob (v : Value) (T : List (Tk × Int)) : Option Nat := if T = [] then none else v.ownBlock
theorem RowZ.onlyo {w w' : World} {v : Value} {T : List (Tk × Int)} {S : Nat → Prop} (h : RowZ w v T) (ho : Only S w w') (hn : ∀ j, ob v T = some j → ¬ S j) : RowZ w' v T := by
 by_cases e : T = []
 ·subst e
  obtain ⟨ma, c, rfl, hc⟩ := h.row
  exact ⟨ma, c, rfl, fun i hi => by simp at hi⟩
 ·exact h.only ho (fun j hj => hn j (by unfold ob; rw [if_neg e]; exact hj))
theorem RowZ.ob_lt {w : World} {v : Value} {T : List (Tk × Int)} (h : RowZ w v T) {j : Nat} (hj : ob v T = some j) : j < w.heap.size := by
 unfold ob at hj
 by_cases e : T = []
 ·rw [if_pos e] at hj; cases hj
 ·rw [if_neg e] at hj
  obtain ⟨ma, c, rfl, hc⟩ := h.row
  obtain ⟨b, o, rfl, hl, _⟩ := hc 0 (List.length_pos_iff.2 e)
  simp only [Value.ownBlock, Option.some.injEq] at hj
  subst hj
  exact hl
structure IsRd (w : World) (rb : Nat) (v : Value) (T : List (Tk × Int)) (p d : Int) : Prop where
 c0 : w.cell? ⟨rb, 0, none⟩ = some v
 c1 : w.cell? ⟨rb, 1, none⟩ = some (.int .i64 p)
 c2 : w.cell? ⟨rb, 2, none⟩ = some (.int .i64 d)
 f : ∀ k, w.frozen? ⟨rb, k, none⟩ = false
 row : RowZ w v T
 ne : ¬ ob v T = some rb
 len : T.length ≤ 140737488355328
 lo : -9223372036854775808 ≤ p
 hi : p < 9223372036854775808
theorem IsRd.lt {w : World} {rb : Nat} {v : Value} {T : List (Tk × Int)} {p d : Int} (h : IsRd w rb v T p d) : rb < w.heap.size := World.block_lt_of_cell? w _ h.c0
theorem IsRd.of {w w' : World} {rb : Nat} {v : Value} {T : List (Tk × Int)} {p d : Int} (h : IsRd w rb v T p d) (hb : Below w.heap.size w w') : IsRd w' rb v T p d :=
 { h with c0 := stay hb h.c0, c1 := stay hb h.c1, c2 := stay hb h.c2, f := fun k => ((hb.frozen (p := ⟨rb, k, none⟩) h.lt).trans (h.f k)), row := h.row.of hb }
theorem IsRd.only {w w' : World} {rb : Nat} {v : Value} {T : List (Tk × Int)} {p d : Int} {S : Nat → Prop} (h : IsRd w rb v T p d) (ho : Only S w w') (h1 : ¬ S rb) (h2 : ∀ j, ob v T = some j → ¬ S j) : IsRd w' rb v T p d :=
 { h with c0 := ho.cell h1 h.c0, c1 := ho.cell h1 h.c1, c2 := ho.cell h1 h.c2, f := fun k => ((ho.frozen (a := ⟨rb, k, none⟩) h.lt h1).trans (h.f k)), row := h.row.onlyo ho h2 }
theorem zXa (w : World) (b o : Nat) (v : Value) : Only (fun j => j = b) w (w.setCell ⟨b, o, none⟩ v) := (Only.refl _ w).setCell rfl
theorem IsRd.setP {w : World} {rb : Nat} {v : Value} {T : List (Tk × Int)} {p d : Int} (h : IsRd w rb v T p d) {q : Int} (h1 : -9223372036854775808 ≤ q) (h2 : q < 9223372036854775808) : IsRd (w.setCell ⟨rb, 1, none⟩ (.int .i64 q)) rb v T q d :=
 { c0 := cset h.c0 (by omega), c1 := zZv h.c1, c2 := cset h.c2 (by omega), f := fun k => by rw [World.frozen?_setCell]; exact h.f k, row := h.row.onlyo (zXa _ _ _ _) (fun j hj e => h.ne (by rw [hj, e])), ne := h.ne, len := h.len, lo := h1, hi := h2 }
theorem IsRd.setD {w : World} {rb : Nat} {v : Value} {T : List (Tk × Int)} {p d : Int} (h : IsRd w rb v T p d) {e : Int} : IsRd (w.setCell ⟨rb, 2, none⟩ (.int .i64 e)) rb v T p e :=
 { c0 := cset h.c0 (by omega), c1 := cset h.c1 (by omega), c2 := zZv h.c2, f := fun k => by rw [World.frozen?_setCell]; exact h.f k, row := h.row.onlyo (zXa _ _ _ _) (fun j hj e => h.ne (by rw [hj, e])), ne := h.ne, len := h.len, lo := h.lo, hi := h.hi }
def zXy (T : List (Tk × Int)) (p : Int) : Tk := if 0 ≤ p then (T.getD p.toNat (⟨0, [], 0⟩, 0)).1 else ⟨0, [], 0⟩
abbrev tokV (t : Tk) : Value := .agg #[.int .u8 (t.k : Int), .string (str t.t), .int .u64 (t.n : Int), .int .i64 0]
theorem xJh {T : List (Tk × Int)} {i : Nat} (h : i < T.length) : zXy T (i : Int) = T[i].1 := by unfold zXy; rw [if_pos (by omega), Int.toNat_natCast, List.getD_eq_getElem?_getD, List.getElem?_eq_getElem h]; rfl
theorem xXd {T : List (Tk × Int)} {p : Int} (h : p < 0 ∨ (T.length : Int) ≤ p) : zXy T p = ⟨0, [], 0⟩ := by
 unfold zXy
 by_cases h0 : 0 ≤ p
 ·rw [if_pos h0, List.getD_eq_getElem?_getD, List.getElem?_eq_none (by omega)]; rfl
 ·rw [if_neg h0]
theorem xZa {w : World} {rb : Nat} {v : Value} {T : List (Tk × Int)} {p d : Int} (h : IsRd w rb v T p d) (n : Int) (hn : n = 0 ∨ n = 1) :
 Calls Tryz.prog 195 #[.pointer (some ⟨rb, 0, none⟩), .int .i64 n] w fun e w' => e = .returned (tokV (zXy T (p + n))) ∧ Below w.heap.size w w' := by
 obtain ⟨ma, c, hv, hc⟩ := h.row.row
 subst hv
 have c0 := h.c0
 have c1 := h.c1
 have hlt := h.lt
 have hlen := h.len
 have hlo := h.lo
 have hhi := h.hi
 by_cases hin : 0 ≤ p + n ∧ p + n < T.length
 ·obtain ⟨i, hi⟩ : ∃ i : Nat, p + n = i := ⟨(p + n).toNat, by omega⟩
  have hil : i < T.length := by omega
  have hw : IntKind.i64.wrap (p + n) = (i : Int) := by rw [IntKind.wrap_i64]; omega
  obtain ⟨b, o, rfl, hb, q0, q1, q2, q3⟩ := hc i hil
  have ht := xJh hil
  rw [hi, ht]
  generalize T[i].1 = t at q0 q1 q2
  generalize T[i].2 = z at q3
  obtain ⟨N, hN⟩ : ∃ N, N = T.length := ⟨_, rfl⟩
  rw [← hN] at c0 hil hlen
  clear hc h ht hN hin hi hlo hhi
  go_enter Tryz.func195, Tryz.ntmps195
  go_wp2
  exact bodyPost_ret (yZm rfl _ _ w.heap.size _ _ _ _ rfl (zQj (zQf _ _ _ _ rfl) _)) rfl ⟨rfl, aB (aB (Below.refl _ _) _) _⟩
 ·rw [xXd (T := T) (p := p + n) (by omega)]
  obtain ⟨N, hN⟩ : ∃ N, N = T.length := ⟨_, rfl⟩
  rw [← hN] at c0 hlen hin
  obtain ⟨z, hz⟩ : ∃ z, IntKind.i64.wrap (p + n) = z := ⟨_, rfl⟩
  have hzz : z < 0 ∨ (N : Int) ≤ z := by rw [← hz, IntKind.wrap_i64]; omega
  clear hc h hN hin hlo hhi
  rcases hzz with hzz | hzz
  ·go_enter Tryz.func195, Tryz.ntmps195
   go_wp2
   exact bodyPost_ret (yZm rfl _ _ w.heap.size _ _ _ _ rfl (zQf _ _ _ _ rfl)) rfl ⟨rfl, aB (Below.refl _ _) _⟩
  ·have hzz' : ¬ z < 0 := by omega
   go_enter Tryz.func195, Tryz.ntmps195
   go_wp2
   exact bodyPost_ret (yZm rfl _ _ w.heap.size _ _ _ _ rfl (zQf _ _ _ _ rfl)) rfl ⟨rfl, aB (Below.refl _ _) _⟩
theorem zXm {P : Program} {id : Nat} {Q : Exit → Act → World → Prop} {a : Act} {w : World} {l : List Oper} (hm : P.follows .mixedOrders = true) (hB : Region.lexB .any l.toArray = true)
 (h : wpQuiet P l.toArray (fun w' => Below w.heap.size w w') (fun a' => ∀ w', Below w.heap.size w w' → Q .normal a' w') l a) : (Code.region id l.toArray true).wp P Q a w :=
 wp_region_quiet (C := fun w' => Below w.heap.size w w') hm hB (bdN (Below.refl _ w) 1) h
theorem xJm {a b : List UInt8} : (str a).toList = (str b).toList ↔ a = b := by rw [ByteArray.toList_eq, ByteArray.toList_eq, zXj, zXj]
theorem jZv (xk xn tk tn : Nat) (xt tt : List UInt8) (c : Bool) (hc : c = false ↔ (⟨xk, xt, xn⟩ : Tk) = ⟨tk, tt, tn⟩) (w : World) :
 (if (xk : Int) = tk then if (str xt).toList = (str tt).toList then if (xn : Int) = tn then Result.ok (Next.value (.bool false)) w else Result.ok (Next.value (.bool true)) w else Result.ok (Next.value (.bool true)) w else Result.ok (Next.value (.bool true)) w) = Result.ok (Next.value (.bool c)) w := by
 simp only [xJm, Int.ofNat_inj]
 by_cases h1 : xk = tk <;> by_cases h2 : xt = tt <;> by_cases h3 : xn = tn <;> simp only [h1, h2, h3, if_true, if_false] <;> (cases c <;> simp_all)
theorem yKs (xk xn tk tn : Nat) (xt tt : List UInt8) (c : Bool) (hc : c = true ↔ (⟨xk, xt, xn⟩ : Tk) = ⟨tk, tt, tn⟩) (w : World) :
 (if (xk : Int) = tk then if (str xt).toList = (str tt).toList then if (xn : Int) = tn then Result.ok (Next.value (.bool true)) w else Result.ok (Next.value (.bool false)) w else Result.ok (Next.value (.bool false)) w else Result.ok (Next.value (.bool false)) w) = Result.ok (Next.value (.bool c)) w := by
 simp only [xJm, Int.ofNat_inj]
 by_cases h1 : xk = tk <;> by_cases h2 : xt = tt <;> by_cases h3 : xn = tn <;> simp only [h1, h2, h3, if_true, if_false] <;> (cases c <;> simp_all)
theorem xQj {w : World} {rb : Nat} {v : Value} {T : List (Tk × Int)} {p d : Int} (h : IsRd w rb v T p d) : Calls Tryz.prog 195 #[.pointer (some ⟨rb, 0, none⟩), .int .i64 0] w fun e w' => e = .returned (tokV (zXy T p)) ∧ Below w.heap.size w w' := by
 have := xZa h 0 (.inl rfl)
 rw [Int.add_zero] at this
 exact this
structure TkP (w w' : World) (rb : Nat) (v : Value) (T : List (Tk × Int)) (p d : Int) : Prop where
 rd : IsRd w' rb v T p d
 only : Only (fun j => j = rb) w w'
theorem take_m {w : World} {rb : Nat} {v : Value} {T : List (Tk × Int)} {p d : Int} :
 (∀ (h : IsRd w rb v T p d) (t : Tk) (ht : ¬ zXy T p = t), Calls Tryz.prog 202 #[.pointer (some ⟨rb, 0, none⟩), tokV t] w fun e w' => e = .returned (.int .i64 7) ∧ Below w.heap.size w w') ∧
 (∀ (h : IsRd w rb v T p d) (t : Tk) (ht : zXy T p = t) (h0 : 0 ≤ p) (h1 : p < T.length), Calls Tryz.prog 202 #[.pointer (some ⟨rb, 0, none⟩), tokV t] w fun e w' => e = .returned (.int .i64 0) ∧ TkP w w' rb v T (p + 1) d) := by
 refine ⟨(@fun h t ht => have k1 : Nat := 0; ?_), (@fun h t ht h0 h1 => have k2 : Nat := 0; ?_)⟩
 all_goals
  have hA : ∀ w', Below w.heap.size w w' → Calls Tryz.prog 195 #[.pointer (some ⟨rb, 0, none⟩), .int .i64 0] w' fun e w'' => e = .returned (tokV (zXy T p)) ∧ Below w'.heap.size w' w'' := fun w' hb => xQj (h.of hb)
  have HR := Lib.hid h
  have hrl := h.lt
  obtain ⟨x, hx⟩ : ∃ x, zXy T p = x := ⟨_, rfl⟩
  rw [hx] at hA ht
  clear hx h
  obtain ⟨xk, xt, xn⟩ := x
  obtain ⟨tk, tt, tn⟩ := t
  first
  | (replace k1 := k1
     have hX := jZv xk xn tk tn xt tt true (by simp [ht]))
  | (replace k2 := k2
     have hX := jZv xk xn tk tn xt tt false (by simp [ht]))
  go_enter Tryz.func202, Tryz.ntmps202
  go_wp2
  obtain ⟨W, hW⟩ : ∃ W, w.alloc (.cells #[.int .u8 (tk : Int), .string (str tt), .int .u64 (tn : Int), .int .i64 0] 95) = W := ⟨_, rfl⟩
  have hBw : Below w.heap.size w W := by rw [← hW]; exact aB (Below.refl _ _) _
  have b0 : W.cell? ⟨w.heap.size, 0, none⟩ = some (.int .u8 (tk : Int)) := by rw [← hW]; exact zQp _ _ _ 0
  have b1 : W.cell? ⟨w.heap.size, 1, none⟩ = some (.string (str tt)) := by rw [← hW]; exact zQp _ _ _ 1
  have b2 : W.cell? ⟨w.heap.size, 2, none⟩ = some (.int .u64 (tn : Int)) := by rw [← hW]; exact zQp _ _ _ 2
  have b3 : W.cell? ⟨w.heap.size, 3, none⟩ = some (.int .i64 0) := by rw [← hW]; exact zQp _ _ _ 3
  rw [hW]
  clear hW
  refine zXm (by kernel_rfl) (by kernel_rfl) ?_
  repeat (first
   | go_big_quiet_skip
   | (refine BigFrame.wpQuiet_want (by kernel_rfl) fun K hK => ?_
      apply Exists.intro
      refine ⟨fun w' hb' => ?_, ?_⟩
      ·have s0 := stay hb' b0
       have s1 := stay hb' b1
       have s2 := stay hb' b2
       have s3 := stay hb' b3
       go_simp
       first
        | exact rfl
        | exact ⟨rfl, hb'⟩
        | (go_at_call 195
           exact (hA _ (zXo hBw (Nat.le_refl _) hb')).mono fun e w'' ⟨he, hb2⟩ => ⟨he, zXo hb' (Nat.le_refl _) hb2⟩)
      go_simp
      refine hK _ ?_
      clear hK K))
  refine wpQuiet_nil ?_
  intro w1 hb1
  first
  | (replace k1 := k1)
  | (replace k2 := k2
     have hR1 := HR.out.of (tr hBw hb1)
     have c1 := hR1.c1
     have f1 := hR1.f 1
     have hl1 := hR1.lt
     have hw : IntKind.i64.wrap (p + 1) = p + 1 := by rw [IntKind.wrap_i64]; have := hR1.len; omega)
  go_wp2
  go_ret
  first
  | (replace k1 := k1
     exact ⟨rfl, tr hBw hb1⟩)
  | (replace k2 := k2
     exact ⟨rfl, hR1.setP (by omega) (by have := hR1.len; omega), (zQd (tr hBw hb1)).trans (zXa _ _ _ _)⟩)
theorem xJp (l : List UInt8) (t : Tk) (ht : t = sg l) (w : World) : Calls Tryz.prog 186 #[.string (str l)] w fun e w' => e = .returned (tokV t) ∧ Below w.heap.size w w' := by
 subst ht
 exact zJp (str l) w
theorem IsRd.row_sl {w : World} {rb : Nat} {v : Value} {T : List (Tk × Int)} {p d : Int} (h : IsRd w rb v T p d) : ∃ ma c, v = .slice ma T.length c := by
 obtain ⟨ma, c, hv, _⟩ := h.row.row
 exact ⟨ma, c, hv⟩
theorem IsRd.np {w : World} {rb : Nat} {v : Value} {T : List (Tk × Int)} {p d : Int} (h : IsRd w rb v T p d) {b : Nat} {a : Option Addr} (hb : w.cell? ⟨b, 0, none⟩ = some (.pointer a)) : ¬ b = rb := by
 intro e
 subst e
 obtain ⟨ma, c, hv⟩ := h.row_sl
 have := h.c0.symm.trans hb
 rw [hv] at this
 cases this
theorem IsRd.ns {w : World} {rb : Nat} {v : Value} {T : List (Tk × Int)} {p d : Int} (h : IsRd w rb v T p d) {b : Nat} {s : ByteArray} (hb : w.cell? ⟨b, 0, none⟩ = some (.string s)) : ¬ b = rb := by
 intro e
 subst e
 obtain ⟨ma, c, hv⟩ := h.row_sl
 have := h.c0.symm.trans hb
 rw [hv] at this
 cases this
theorem sign1_m {w : World} {rb : Nat} {v : Value} {T : List (Tk × Int)} {p d : Int} :
 (∀ (h : IsRd w rb v T p d) (s : List UInt8) (br bs : Nat) (eb : Option Addr) (hr : w.cell? ⟨br, 0, none⟩ = some (.pointer (some ⟨rb, 0, none⟩))) (hs : w.cell? ⟨bs, 0, none⟩ = some (.string (str s))) (ht : ¬ zXy T p = sg s), Calls Tryz.prog 203 #[.pointer eb, .pointer (some ⟨br, 0, none⟩), .pointer (some ⟨bs, 0, none⟩)] w fun e w' => e = .returned (.int .i64 7) ∧ Below w.heap.size w w') ∧
 (∀ (h : IsRd w rb v T p d) (s : List UInt8) (br bs : Nat) (eb : Option Addr) (hr : w.cell? ⟨br, 0, none⟩ = some (.pointer (some ⟨rb, 0, none⟩))) (hs : w.cell? ⟨bs, 0, none⟩ = some (.string (str s))) (ht : zXy T p = sg s) (h0 : 0 ≤ p) (h1 : p < T.length), Calls Tryz.prog 203 #[.pointer eb, .pointer (some ⟨br, 0, none⟩), .pointer (some ⟨bs, 0, none⟩)] w fun e w' => e = .returned (.int .i64 0) ∧ TkP w w' rb v T (p + 1) d) := by
 refine ⟨(@fun h s br bs eb hr hs ht => have k1 : Nat := 0; ?_), (@fun h s br bs eb hr hs ht h0 h1 => have k2 : Nat := 0; ?_)⟩
 all_goals
  have hS := xJp s (sg s) rfl
  have n1 := h.np hr
  have n2 := h.ns hs
  have hbr := World.block_lt_of_cell? w _ hr
  have hbs := World.block_lt_of_cell? w _ hs
  have hFi : ∀ w', Only (fun j => j = rb) w w' → w'.cell? ⟨br, 0, none⟩ = some (.pointer (some ⟨rb, 0, none⟩)) ∧ w'.cell? ⟨bs, 0, none⟩ = some (.string (str s)) ∧ br < w'.heap.size ∧ bs < w'.heap.size := fun w' ho => ⟨ho.cell n1 hr, ho.cell n2 hs, Nat.lt_of_lt_of_le hbr ho.size, Nat.lt_of_lt_of_le hbs ho.size⟩
  have hF0 : Only (fun j => j = rb) w w.drew := od1
  have hD : Below w.heap.size w w.drew := bdN (Below.refl _ w) 1
  go_enter Tryz.func203, Tryz.ntmps203
  go_wp2
  refine zXi (fun w' => Only (fun j => j = rb) w w') (by kernel_rfl) ?_
  have q : Pq [0, 1] := trivial
  iterate 2
   refine tkN q rfl (by kernel_rfl) hF0 fun K hK => ?_
   replace q := q.tl
   apply Exists.intro
   refine ⟨Or.inl ⟨by kernel_rfl, fun w' hf => ?_⟩, ?_⟩
   ·obtain ⟨s1, s2, s3, s4⟩ := hFi _ hf
    go_simp
    try exact rfl
   go_simp
   refine hK _ ?_
   clear hK K
  refine zQe (k := 2) (by kernel_rfl) ?_
  refine wpOp_step rfl (fun K hK => ?_)
  go_simp
  go_at_call 186
  with_reducible refine (hS _).mono ?_
  rintro e v1 ⟨rfl, hb1⟩
  have hB1 := tr hD hb1
  have hF1 := hF0.trans (zQd hb1)
  refine hK _ _ ⟨hF1, ?_⟩
  clear hK K
  refine zQe (k := 3) (by kernel_rfl) ?_
  refine wpOp_step rfl (fun K hK => ?_)
  go_simp
  go_at_call 202
  first
  | (replace k1 := k1
     with_reducible refine (take_m.1 (h.of hB1) (sg s) ht).mono ?_)
  | (replace k2 := k2
     with_reducible refine (take_m.2 (h.of hB1) (sg s) ht h0 h1).mono ?_)
  first
  | (replace k1 := k1
     rintro e v2 ⟨rfl, hb2⟩)
  | (replace k2 := k2
     rintro e v2 ⟨rfl, hP⟩)
  first
  | (replace k1 := k1
     have hF2 := hF1.trans (zQd hb2))
  | (replace k2 := k2
     have hF2 := hF1.trans hP.only)
  refine hK _ _ ⟨hF2, ?_⟩
  clear hK K
  refine zQe (k := 4) (by kernel_rfl) ?_
  refine wpOp_step rfl (fun K hK => ?_)
  go_simp
  refine hK _ _ ⟨hF2, ?_⟩
  clear hK K
  refine zQq (by kernel_rfl) ⟨rfl, ?_⟩
  go_wp2
  go_ret
  first
  | (replace k1 := k1
     exact ⟨rfl, tr hB1 hb2⟩)
  | (replace k2 := k2
     exact ⟨rfl, hP.rd, hF2⟩)
def yQd (T : List (Tk × Int)) (p : Int) : Nat := if (zXy T p).k = 3 then 1 else if zXy T p = sg [35] then 4 else if zXy T p = sg [40] then 3 else if zXy T (p + 1) = sg [91] then 5 else 2
theorem kind_any {w : World} {rb : Nat} {v : Value} {T : List (Tk × Int)} {p d : Int} (h : IsRd w rb v T p d) :
 Calls Tryz.prog 192 #[.pointer (some ⟨rb, 0, none⟩)] w fun e w' => e = .returned (.int .u8 (yQd T p : Int)) ∧ Below w.heap.size w w' := by
 have hA := xQj h
 have hA1 : ∀ w', Below w.heap.size w w' → Calls Tryz.prog 195 #[.pointer (some ⟨rb, 0, none⟩), .int .i64 1] w' fun e w'' => e = .returned (tokV (zXy T (p + 1))) ∧ Below w'.heap.size w' w'' := fun w' hb => xZa (h.of hb) 1 (.inr rfl)
 unfold yQd
 obtain ⟨x, hx⟩ : ∃ x, zXy T p = x := ⟨_, rfl⟩
 obtain ⟨y, hy⟩ : ∃ y, zXy T (p + 1) = y := ⟨_, rfl⟩
 rw [hx] at hA ⊢
 rw [hy] at hA1 ⊢
 clear hx hy h
 obtain ⟨a, ha⟩ : ∃ a, a = sg [35] := ⟨_, rfl⟩
 obtain ⟨b, hb⟩ : ∃ b, b = sg [40] := ⟨_, rfl⟩
 obtain ⟨c, hc⟩ : ∃ c, c = sg [91] := ⟨_, rfl⟩
 have hSa : ∀ w, Calls Tryz.prog 186 #[.string ⟨#[35]⟩] w fun e w' => e = .returned (tokV a) ∧ Below w.heap.size w w' := xJp [35] a ha
 have hSb : ∀ w, Calls Tryz.prog 186 #[.string ⟨#[40]⟩] w fun e w' => e = .returned (tokV b) ∧ Below w.heap.size w w' := xJp [40] b hb
 have hSc : ∀ w, Calls Tryz.prog 186 #[.string ⟨#[91]⟩] w fun e w' => e = .returned (tokV c) ∧ Below w.heap.size w w' := xJp [91] c hc
 rw [← ha, ← hb, ← hc]
 clear ha hb hc
 obtain ⟨xk, xt, xn⟩ := x
 obtain ⟨yk, yt, yn⟩ := y
 obtain ⟨ak, at1, an⟩ := a
 obtain ⟨bk, bt, bn⟩ := b
 obtain ⟨ck, ct, cn⟩ := c
 by_cases h3 : xk = 3
 ·subst h3
  rw [if_pos (by exact rfl)]
  go_enter Tryz.func192, Tryz.ntmps192
  go_wp2_with (first | (go_at_call 195; ((with_reducible refine hA.mono ?_); (rintro e w1 ⟨rfl, hb1⟩))))
  go_ret
  exact ⟨rfl, tr hb1 (aB (Below.refl _ _) _)⟩
 ·rw [if_neg (by exact h3)]
  have h3' : ((xk : Int) == 3) = false := by simp only [beq_eq_false_iff_ne]; omega
  by_cases h35 : (⟨xk, xt, xn⟩ : Tk) = ⟨ak, at1, an⟩
  ·have hX := yKs xk xn ak an xt at1 true (by simp [h35])
   rw [if_pos h35]
   clear h35
   go_enter Tryz.func192, Tryz.ntmps192
   go_wp2_with (first | (go_at_call 195; ((with_reducible refine hA.mono ?_); (rintro e w1 ⟨rfl, hb1⟩))))
   obtain ⟨W, hW⟩ : ∃ W, w1.alloc (.cells #[.int .u8 (xk : Int), .string (str xt), .int .u64 (xn : Int), .int .i64 0] 95) = W := ⟨_, rfl⟩
   have hBw : Below w1.heap.size w1 W := by rw [← hW]; exact aB (Below.refl _ _) _
   have b0 : W.cell? ⟨w1.heap.size, 0, none⟩ = some (.int .u8 (xk : Int)) := by rw [← hW]; exact zQp _ _ _ 0
   have b1 : W.cell? ⟨w1.heap.size, 1, none⟩ = some (.string (str xt)) := by rw [← hW]; exact zQp _ _ _ 1
   have b2 : W.cell? ⟨w1.heap.size, 2, none⟩ = some (.int .u64 (xn : Int)) := by rw [← hW]; exact zQp _ _ _ 2
   have b3 : W.cell? ⟨w1.heap.size, 3, none⟩ = some (.int .i64 0) := by rw [← hW]; exact zQp _ _ _ 3
   rw [hW]
   clear hW
   have hBW := tr hb1 hBw
   refine zXm (by kernel_rfl) (by kernel_rfl) ?_
   repeat (first
    | go_big_quiet_skip
    | (refine BigFrame.wpQuiet_want (by kernel_rfl) fun K hK => ?_
       apply Exists.intro
       refine ⟨fun w' hb' => ?_, ?_⟩
       ·have s0 := stay hb' b0
        have s1 := stay hb' b1
        have s2 := stay hb' b2
        have s3 := stay hb' b3
        go_simp
        first
         | exact rfl
         | exact ⟨rfl, hb'⟩
         | (go_at_call 186
            exact (hSa _).mono fun e w'' ⟨he, hb2⟩ => ⟨he, zXo hb' (Nat.le_refl _) hb2⟩)
       go_simp
       refine hK _ ?_
       clear hK K))
   refine wpQuiet_nil ?_
   intro w2 hb2
   go_wp2
   go_ret
   exact ⟨rfl, tr hBW hb2⟩
  ·have hX := yKs xk xn ak an xt at1 false (by simp [h35])
   rw [if_neg h35]
   clear h35
   by_cases h40 : (⟨xk, xt, xn⟩ : Tk) = ⟨bk, bt, bn⟩
   ·have hY := yKs xk xn bk bn xt bt true (by simp [h40])
    rw [if_pos h40]
    clear h40
    go_enter Tryz.func192, Tryz.ntmps192
    go_wp2_with (first | (go_at_call 195; ((with_reducible refine hA.mono ?_); (rintro e w1 ⟨rfl, hb1⟩))))
    obtain ⟨W, hW⟩ : ∃ W, w1.alloc (.cells #[.int .u8 (xk : Int), .string (str xt), .int .u64 (xn : Int), .int .i64 0] 95) = W := ⟨_, rfl⟩
    have hBw : Below w1.heap.size w1 W := by rw [← hW]; exact aB (Below.refl _ _) _
    have b0 : W.cell? ⟨w1.heap.size, 0, none⟩ = some (.int .u8 (xk : Int)) := by rw [← hW]; exact zQp _ _ _ 0
    have b1 : W.cell? ⟨w1.heap.size, 1, none⟩ = some (.string (str xt)) := by rw [← hW]; exact zQp _ _ _ 1
    have b2 : W.cell? ⟨w1.heap.size, 2, none⟩ = some (.int .u64 (xn : Int)) := by rw [← hW]; exact zQp _ _ _ 2
    have b3 : W.cell? ⟨w1.heap.size, 3, none⟩ = some (.int .i64 0) := by rw [← hW]; exact zQp _ _ _ 3
    rw [hW]
    clear hW
    have hBW := tr hb1 hBw
    refine zXm (by kernel_rfl) (by kernel_rfl) ?_
    repeat (first
     | go_big_quiet_skip
     | (refine BigFrame.wpQuiet_want (by kernel_rfl) fun K hK => ?_
        apply Exists.intro
        refine ⟨fun w' hb' => ?_, ?_⟩
        ·have s0 := stay hb' b0
         have s1 := stay hb' b1
         have s2 := stay hb' b2
         have s3 := stay hb' b3
         go_simp
         first
          | exact rfl
          | exact ⟨rfl, hb'⟩
          | (go_at_call 186
             exact (hSa _).mono fun e w'' ⟨he, hb2⟩ => ⟨he, zXo hb' (Nat.le_refl _) hb2⟩)
        go_simp
        refine hK _ ?_
        clear hK K))
    refine wpQuiet_nil ?_
    intro w2 hb2
    have d0 := stay hb2 b0
    have d1 := stay hb2 b1
    have d2 := stay hb2 b2
    have d3 := stay hb2 b3
    have hB2 := tr hBW hb2
    clear hX
    go_wp2
    refine zXm (by kernel_rfl) (by kernel_rfl) ?_
    repeat (first
     | go_big_quiet_skip
     | (refine BigFrame.wpQuiet_want (by kernel_rfl) fun K hK => ?_
        apply Exists.intro
        refine ⟨fun w' hb' => ?_, ?_⟩
        ·have s0 := stay hb' d0
         have s1 := stay hb' d1
         have s2 := stay hb' d2
         have s3 := stay hb' d3
         go_simp
         first
          | exact rfl
          | exact ⟨rfl, hb'⟩
          | (go_at_call 186
             exact (hSb _).mono fun e w'' ⟨he, hb2⟩ => ⟨he, zXo hb' (Nat.le_refl _) hb2⟩)
        go_simp
        refine hK _ ?_
        clear hK K))
    refine wpQuiet_nil ?_
    intro w3 hb3
    go_wp2
    go_ret
    exact ⟨rfl, tr hB2 hb3⟩
   ·have hY := yKs xk xn bk bn xt bt false (by simp [h40])
    rw [if_neg h40]
    clear h40
    by_cases h91 : (⟨yk, yt, yn⟩ : Tk) = ⟨ck, ct, cn⟩
    ·have hZ := yKs yk yn ck cn yt ct true (by simp [h91])
     rw [if_pos h91]
     clear h91
     go_enter Tryz.func192, Tryz.ntmps192
     go_wp2_with (first | (go_at_call 195; ((with_reducible refine hA.mono ?_); (rintro e w1 ⟨rfl, hb1⟩))))
     obtain ⟨W, hW⟩ : ∃ W, w1.alloc (.cells #[.int .u8 (xk : Int), .string (str xt), .int .u64 (xn : Int), .int .i64 0] 95) = W := ⟨_, rfl⟩
     have hBw : Below w1.heap.size w1 W := by rw [← hW]; exact aB (Below.refl _ _) _
     have b0 : W.cell? ⟨w1.heap.size, 0, none⟩ = some (.int .u8 (xk : Int)) := by rw [← hW]; exact zQp _ _ _ 0
     have b1 : W.cell? ⟨w1.heap.size, 1, none⟩ = some (.string (str xt)) := by rw [← hW]; exact zQp _ _ _ 1
     have b2 : W.cell? ⟨w1.heap.size, 2, none⟩ = some (.int .u64 (xn : Int)) := by rw [← hW]; exact zQp _ _ _ 2
     have b3 : W.cell? ⟨w1.heap.size, 3, none⟩ = some (.int .i64 0) := by rw [← hW]; exact zQp _ _ _ 3
     rw [hW]
     clear hW
     have hBW := tr hb1 hBw
     refine zXm (by kernel_rfl) (by kernel_rfl) ?_
     repeat (first
      | go_big_quiet_skip
      | (refine BigFrame.wpQuiet_want (by kernel_rfl) fun K hK => ?_
         apply Exists.intro
         refine ⟨fun w' hb' => ?_, ?_⟩
         ·have s0 := stay hb' b0
          have s1 := stay hb' b1
          have s2 := stay hb' b2
          have s3 := stay hb' b3
          go_simp
          first
           | exact rfl
           | exact ⟨rfl, hb'⟩
           | (go_at_call 186
              exact (hSa _).mono fun e w'' ⟨he, hb2⟩ => ⟨he, zXo hb' (Nat.le_refl _) hb2⟩)
         go_simp
         refine hK _ ?_
         clear hK K))
     refine wpQuiet_nil ?_
     intro w2 hb2
     have d0 := stay hb2 b0
     have d1 := stay hb2 b1
     have d2 := stay hb2 b2
     have d3 := stay hb2 b3
     have hB2 := tr hBW hb2
     clear hX
     go_wp2
     refine zXm (by kernel_rfl) (by kernel_rfl) ?_
     repeat (first
      | go_big_quiet_skip
      | (refine BigFrame.wpQuiet_want (by kernel_rfl) fun K hK => ?_
         apply Exists.intro
         refine ⟨fun w' hb' => ?_, ?_⟩
         ·have s0 := stay hb' d0
          have s1 := stay hb' d1
          have s2 := stay hb' d2
          have s3 := stay hb' d3
          go_simp
          first
           | exact rfl
           | exact ⟨rfl, hb'⟩
           | (go_at_call 186
              exact (hSb _).mono fun e w'' ⟨he, hb2⟩ => ⟨he, zXo hb' (Nat.le_refl _) hb2⟩)
         go_simp
         refine hK _ ?_
         clear hK K))
     refine wpQuiet_nil ?_
     intro w3 hb3
     clear hY
     have hB3 := tr hB2 hb3
     go_wp2_with (first | (go_at_call 195; ((with_reducible refine (hA1 _ hB3).mono ?_); (rintro e w4 ⟨rfl, hb4⟩))) | (go_at_call 186; ((with_reducible refine (hSc _).mono ?_); (rintro e w5 ⟨rfl, hb5⟩))))
     go_ret
     exact ⟨rfl, tr (tr hB3 hb4) hb5⟩
    ·have hZ := yKs yk yn ck cn yt ct false (by simp [h91])
     rw [if_neg h91]
     clear h91
     go_enter Tryz.func192, Tryz.ntmps192
     go_wp2_with (first | (go_at_call 195; ((with_reducible refine hA.mono ?_); (rintro e w1 ⟨rfl, hb1⟩))))
     obtain ⟨W, hW⟩ : ∃ W, w1.alloc (.cells #[.int .u8 (xk : Int), .string (str xt), .int .u64 (xn : Int), .int .i64 0] 95) = W := ⟨_, rfl⟩
     have hBw : Below w1.heap.size w1 W := by rw [← hW]; exact aB (Below.refl _ _) _
     have b0 : W.cell? ⟨w1.heap.size, 0, none⟩ = some (.int .u8 (xk : Int)) := by rw [← hW]; exact zQp _ _ _ 0
     have b1 : W.cell? ⟨w1.heap.size, 1, none⟩ = some (.string (str xt)) := by rw [← hW]; exact zQp _ _ _ 1
     have b2 : W.cell? ⟨w1.heap.size, 2, none⟩ = some (.int .u64 (xn : Int)) := by rw [← hW]; exact zQp _ _ _ 2
     have b3 : W.cell? ⟨w1.heap.size, 3, none⟩ = some (.int .i64 0) := by rw [← hW]; exact zQp _ _ _ 3
     rw [hW]
     clear hW
     have hBW := tr hb1 hBw
     refine zXm (by kernel_rfl) (by kernel_rfl) ?_
     repeat (first
      | go_big_quiet_skip
      | (refine BigFrame.wpQuiet_want (by kernel_rfl) fun K hK => ?_
         apply Exists.intro
         refine ⟨fun w' hb' => ?_, ?_⟩
         ·have s0 := stay hb' b0
          have s1 := stay hb' b1
          have s2 := stay hb' b2
          have s3 := stay hb' b3
          go_simp
          first
           | exact rfl
           | exact ⟨rfl, hb'⟩
           | (go_at_call 186
              exact (hSa _).mono fun e w'' ⟨he, hb2⟩ => ⟨he, zXo hb' (Nat.le_refl _) hb2⟩)
         go_simp
         refine hK _ ?_
         clear hK K))
     refine wpQuiet_nil ?_
     intro w2 hb2
     have d0 := stay hb2 b0
     have d1 := stay hb2 b1
     have d2 := stay hb2 b2
     have d3 := stay hb2 b3
     have hB2 := tr hBW hb2
     clear hX
     go_wp2
     refine zXm (by kernel_rfl) (by kernel_rfl) ?_
     repeat (first
      | go_big_quiet_skip
      | (refine BigFrame.wpQuiet_want (by kernel_rfl) fun K hK => ?_
         apply Exists.intro
         refine ⟨fun w' hb' => ?_, ?_⟩
         ·have s0 := stay hb' d0
          have s1 := stay hb' d1
          have s2 := stay hb' d2
          have s3 := stay hb' d3
          go_simp
          first
           | exact rfl
           | exact ⟨rfl, hb'⟩
           | (go_at_call 186
              exact (hSb _).mono fun e w'' ⟨he, hb2⟩ => ⟨he, zXo hb' (Nat.le_refl _) hb2⟩)
         go_simp
         refine hK _ ?_
         clear hK K))
     refine wpQuiet_nil ?_
     intro w3 hb3
     clear hY
     have hB3 := tr hB2 hb3
     go_wp2_with (first | (go_at_call 195; ((with_reducible refine (hA1 _ hB3).mono ?_); (rintro e w4 ⟨rfl, hb4⟩))) | (go_at_call 186; ((with_reducible refine (hSc _).mono ?_); (rintro e w5 ⟨rfl, hb5⟩))))
     go_ret
     exact ⟨rfl, tr (tr hB3 hb4) hb5⟩
end Go.Proofs.YtfbjljcmmbdhkaaGreatDoor
