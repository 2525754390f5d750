/- Contract of tell. -/
import Derived.Test.YtfbjljcmmbdhkaaGreatDoorT10
import Derived.Deep.AppendLies
import Derived.Test.YtfbjljcmmbdhkaaGreatDoorT01
import Derived.BigQuiet
import Derived.Laws.OwnMore
import Derived.OneCell
import Derived.Test.YtfbjljcmmbdhkaaGreatDoorT09
namespace Go.Proofs.YtfbjljcmmbdhkaaGreatDoor
set_option linter.unusedVariables false
set_option linter.unusedSimpArgs false
set_option maxRecDepth 100000
set_option maxHeartbeats 200000000
open Go.ChangeShapes Go.WideShapes Go.ChangeAt Go.RowKit
structure Tl (B : Nat) (w w' : World) (l l' : Value) (T' : List (Tk × Int)) : Prop where
 own : w'.ownsRow B 95 4 l' T'.length (cellsZ T')
 only : Only (fun j => l.ownBlock = some j) w w'
 blk : ∀ j, l'.ownBlock = some j → l.ownBlock = some j ∨ w.heap.size ≤ j
theorem Tl.trans {B : Nat} {a b c : World} {l l1 l2 : Value} {T1 T2 : List (Tk × Int)} (h : Tl B a b l l1 T1) (k : Tl B b c l1 l2 T2) : Tl B a c l l2 T2 :=
 ⟨k.own, h.only.old k.only h.blk, fun j hj => by
  rcases k.blk j hj with h1 | h1
  ·exact h.blk j h1
  ·exact .inr (Nat.le_trans h.only.size h1)⟩
theorem Tl.pre {B : Nat} {a b c : World} {l l2 : Value} {T2 : List (Tk × Int)} (h : Below a.heap.size a b) (k : Tl B b c l l2 T2) : Tl B a c l l2 T2 :=
 ⟨k.own, (only_below h).trans k.only, fun j hj => by
  rcases k.blk j hj with h1 | h1
  ·exact .inl h1
  ·exact .inr (Nat.le_trans h.size h1)⟩
theorem Tl.post {B : Nat} {a b c : World} {l l2 : Value} {T2 : List (Tk × Int)} (k : Tl B a b l l2 T2) (h : Below b.heap.size b c) : Tl B a c l l2 T2 :=
 ⟨own_of k.own h, k.only.trans (only_below h), k.blk⟩
theorem tl_append {B n m g cap H : Nat} {w w5 : World} {l : Value} {T N : List (Tk × Int)} (hown : w5.ownsRow B 95 4 (.slice (some ⟨g, 0, none⟩) (n + m) cap) (n + m) (cellsZ T ++ cellsZ N)) (hn : n = T.length) (hm : m = N.length)
 (hg : w.grownBy w5 l.ownBlock) (hat : l.ownBlock = some g ∨ g = H) (hH : w.heap.size = H) : Tl B w w5 l (.slice (some ⟨g, 0, none⟩) (n + m) cap) (T ++ N) := by
 subst hn hm hH
 refine ⟨by rw [List.length_append, cellsZ_app]; exact hown, (only_grown hg).mono fun j hj => hj.symm, fun j hj => ?_⟩
 simp only [Value.ownBlock, Option.some.injEq] at hj
 subst hj
 rcases hat with h | h
 ·exact .inl h
 ·exact .inr (Nat.le_of_eq h.symm)
def zs (T : List Tk) : List (Tk × Int) := T.map fun t => (t, 0)
theorem zs_len (T : List Tk) : (zs T).length = T.length := by simp [zs]
theorem zs_app (a b : List Tk) : zs (a ++ b) = zs a ++ zs b := by simp [zs]
def tkC (k : Int) (s : ByteArray) (n : Int) : List Value := [.int .u8 k, .string s, .int .u64 n, .int .i64 0]
theorem tell_num (n : Nat) (ma : Option Addr) (cap : Nat) (B : Nat) (l : Value) (T : List (Tk × Int)) (w : World) (ho : w.ownsRow B 95 4 l T.length (cellsZ T)) (hB : B ≤ w.heap.size) (hl : T.length ≤ 1000000) :
 Calls Tryz.prog 165 #[l, .agg #[.int .u8 1, .int .u64 (n : Int), .string ⟨#[]⟩, .int .u8 0, .slice ma 0 cap]] w fun r w' => ∃ l', r = .returned l' ∧ Tl B w w' l l' (T ++ zs [⟨3, [], n⟩]) := by
 obtain ⟨i0, hi, hz0, hz1, hz2⟩ := info_parts infoT
 obtain ⟨M, hM⟩ : ∃ M, M = T.length := ⟨_, rfl⟩
 rw [← hM] at ho hl
 have HM := Lib.hid hM
 clear hM
 go_enter Tryz.func165, Tryz.ntmps165
 go_wp2_with (first | (go_at_call 184; ((with_reducible refine (number_any n _).mono ?_); (rintro e w1 ⟨rfl, hb⟩); have ho1 := own_of (ho.alloc _) hb; have hB1 : Below w.heap.size w w1 := tr (aB (Below.refl _ _) _) hb)) | (at_builtin; refine wpList_append_lies _ rfl _ _ 62 rfl B 95 i0 _ 4 40 Tryz.underlying62 hi hz0 hz1 hz2 rfl (by decide) l M (cellsZ T) rfl (ho1.alloc _) ⟨w1.heap.size, 0, none⟩ 1 1 (cellsZ (zs [⟨3, [], n⟩])) rfl rfl ?cN ?c0 (by decide) ?c1 ?c2 ?c3 _ rfl ?_))
 case cN => exact news_ok (cellsZ (zs [⟨3, [], n⟩])) 95 w1
 case c0 => exact cellsZ_one _
 case c1 => unfold maxLen; omega
 case c2 => omega
 case c3 => have h1 := hB1.size; simp; omega
 intro g cap' w5 hown hgrow hat hlt
 go_wp2
 go_ret
 exact ⟨_, rfl, (tl_append hown HM.out rfl hgrow hat (by simp)).pre (aB hB1 _)⟩
theorem signOf_es (o : Nat) (ho : o < 256) (w : World) (hT : ESignsOk w) : Calls Tryz.prog 187 #[.int .u8 (o : Int)] w fun e w' => e = .returned (.string (str (opS o))) ∧ w' = w := by
 have hw : IntKind.i64.wrap (o : Int) = (o : Int) := by rw [IntKind.wrap_i64]; omega
 go_enter Tryz.func187, Tryz.ntmps187
 by_cases h : o < 15
 ·have c0 := hT o h
  have hb := World.block_lt_of_cell? w _ c0
  go_wp2
  go_ret
  exact ⟨rfl, rfl⟩
 ·have e : opS o = [] := opS_big (by omega)
  rw [e]
  go_wp2
  go_ret
  exact ⟨rfl, rfl⟩
theorem es_only {S : Nat → Prop} {w w' : World} (h : ESignsOk w) (ho : Only S w w') (hn : ¬ S 9) : ESignsOk w' := fun j hj => ho.cell hn (h j hj)
theorem own_new {w : World} {B n : Nat} {e : TypeId} {size : Nat} {l : Value} {xs : List Value} {c : Nat} (h : w.ownsRow B e size l n xs) (hc : w.heap.size ≤ c ∨ c < B) : l.ownBlock ≠ some c := fun e => by
 have := own_lt h e
 omega
theorem Tl.apart {B : Nat} {a b : World} {l l' : Value} {T : List (Tk × Int)} (h : Tl B a b l l' T) {c : Nat} (hc : c < a.heap.size) (hn : l.ownBlock ≠ some c) : l'.ownBlock ≠ some c := fun e => by
 rcases h.blk c e with h1 | h1
 ·exact hn h1
 ·omega
def TellIH (d : Nat) : Prop := ∀ (x : Xp) (v l : Value) (T : List (Tk × Int)) (B : Nat) (w : World), mayB d x = true → IsE (fun b => b < B) w v x → w.ownsRow B 95 4 l T.length (cellsZ T) → B ≤ w.heap.size → T.length + 5 * x.nodes ≤ 1000000 → ESignsOk w → 9 < B →
 Calls Tryz.prog 165 #[l, v] w fun r w' => ∃ l', r = .returned l' ∧ Tl B w w' l l' (T ++ zs (tellF d x))
theorem tell_len : ∀ (d : Nat) (x : Xp), mayB d x = true → (tellF d x).length ≤ 5 * x.nodes := by
 intro d
 induction d with
 | zero => intro x h; simp [mayB] at h
 | succ d ih =>
  intro x h
  obtain ⟨k, n, s, o, l⟩ := x
  rw [mayB, Bool.and_eq_true] at h
  obtain ⟨hf, hl⟩ := h
  have hk := fit_k hf
  rw [Xp.nodes]
  rcases hk with rfl | rfl | rfl | rfl | rfl
  ·simp [tellF]; omega
  ·simp [tellF]; omega
  ·obtain ⟨rfl, rfl, ho, hm⟩ := fit3 hf
   match l, hm with
   | [a, b], _ =>
    simp only [List.all_cons, List.all_nil, Bool.and_true, Bool.and_eq_true] at hl
    have ia := ih a hl.1
    have ib := ih b hl.2
    rw [show tellF (d + 1) (.mk 3 0 [] o [a, b]) = sg [40] :: (tellF d a ++ sg (opS o) :: (tellF d b ++ [sg [41]])) from rfl]
    simp only [nodesL, List.length_cons, List.length_append, List.length_nil]
    omega
  ·simp [tellF]; omega
  ·obtain ⟨rfl, hn, rfl, hm⟩ := fit5 hf
   match l, hm with
   | [a], _ =>
    simp only [List.all_cons, List.all_nil, Bool.and_true] at hl
    have ia := ih a hl
    rw [show tellF (d + 1) (.mk 5 0 s 0 [a]) = nmT s :: sg [91] :: (tellF d a ++ [sg [93]]) from rfl]
    simp only [nodesL, List.length_cons, List.length_append, List.length_nil]
    omega
theorem tell_var (s : List UInt8) (ma : Option Addr) (cap : Nat) (B : Nat) (l : Value) (T : List (Tk × Int)) (w : World) (ho : w.ownsRow B 95 4 l T.length (cellsZ T)) (hB : B ≤ w.heap.size) (hl : T.length ≤ 1000000) :
 Calls Tryz.prog 165 #[l, .agg #[.int .u8 2, .int .u64 0, .string (str s), .int .u8 0, .slice ma 0 cap]] w fun r w' => ∃ l', r = .returned l' ∧ Tl B w w' l l' (T ++ zs [nmT s]) := by
 obtain ⟨i0, hi, hz0, hz1, hz2⟩ := info_parts infoT
 obtain ⟨M, hM⟩ : ∃ M, M = T.length := ⟨_, rfl⟩
 rw [← hM] at ho hl
 have HM := Lib.hid hM
 clear hM
 go_enter Tryz.func165, Tryz.ntmps165
 go_wp2_with (first | (go_at_call 185; ((with_reducible refine (name_any (str s) _).mono ?_); (rintro e w1 ⟨rfl, hb⟩); have ho1 := own_of (ho.alloc _) hb; have hB1 : Below w.heap.size w w1 := tr (aB (Below.refl _ _) _) hb)) | (at_builtin; refine wpList_append_lies _ rfl _ _ 62 rfl B 95 i0 _ 4 40 Tryz.underlying62 hi hz0 hz1 hz2 rfl (by decide) l M (cellsZ T) rfl (ho1.alloc _) ⟨w1.heap.size, 0, none⟩ 1 1 (cellsZ (zs [nmT s])) rfl rfl ?cN ?c0 (by decide) ?c1 ?c2 ?c3 _ rfl ?_))
 case cN => exact news_ok (cellsZ (zs [nmT s])) 95 w1
 case c0 => exact cellsZ_one _
 case c1 => unfold maxLen; omega
 case c2 => omega
 case c3 => have h1 := hB1.size; simp; omega
 intro g cap' w5 hown hgrow hat hlt
 go_wp2
 go_ret
 exact ⟨_, rfl, (tl_append hown HM.out rfl hgrow hat (by simp)).pre (aB hB1 _)⟩
theorem tl_fin {B : Nat} {w W c w5 : World} {l l' : Value} {T : List (Tk × Int)} (hBw : Below w.heap.size w W) (hF : Only (fun j => l.ownBlock = some j) W c) (h : Tl B c w5 l l' T) : Tl B w w5 l l' T :=
 ⟨h.own, ((only_below hBw).trans hF).trans h.only, fun j hj => by
  rcases h.blk j hj with h1 | h1
  ·exact .inl h1
  ·exact .inr (Nat.le_trans hBw.size (Nat.le_trans hF.size h1))⟩
theorem tell_4 (s : List UInt8) (ma : Option Addr) (cap : Nat) (B : Nat) (l : Value) (T : List (Tk × Int)) (w : World) (ho : w.ownsRow B 95 4 l T.length (cellsZ T)) (hB : B ≤ w.heap.size) (hl : T.length ≤ 1000000) :
 Calls Tryz.prog 165 #[l, .agg #[.int .u8 4, .int .u64 0, .string (str s), .int .u8 0, .slice ma 0 cap]] w fun r w' => ∃ l', r = .returned l' ∧ Tl B w w' l l' (T ++ zs [sg [35], nmT s]) := by
 obtain ⟨i0, hi, hz0, hz1, hz2⟩ := info_parts infoT
 obtain ⟨M, hM⟩ : ∃ M, M = T.length := ⟨_, rfl⟩
 rw [← hM] at ho hl
 have HM := Lib.hid hM
 clear hM
 go_enter Tryz.func165, Tryz.ntmps165
 go_wp2
 obtain ⟨W, hW⟩ : ∃ W, w.alloc (.cells #[.int .u8 4, .int .u64 0, .string (str s), .int .u8 0, .slice ma 0 cap] 47) = W := ⟨_, rfl⟩
 have hBw : Below w.heap.size w W := by rw [← hW]; exact aB (Below.refl _ _) _
 have hn0 : l.ownBlock ≠ some w.heap.size := own_new ho (.inl (Nat.le_refl _))
 have hoW : W.drew.ownsRow B 95 4 l M (cellsZ T) := own_only (own_of ho hBw) (od1 (S := fun _ => False)) (fun _ _ h => h)
 have hBW : B ≤ W.heap.size := Nat.le_trans hB hBw.size
 have c2 : W.cell? ⟨w.heap.size, 2, none⟩ = some (.string (str s)) := by rw [← hW]; exact new_cell _ _ _ 2
 rw [hW]
 clear hW
 have hFi : ∀ w', Only (fun j => l.ownBlock = some j) W w' → w'.cell? ⟨w.heap.size, 2, none⟩ = some (.string (str s)) := fun w' h => h.cell hn0 c2
 have hF0 : Only (fun j => l.ownBlock = some j) W W.drew := od1
 refine region_KN (fun w' => Only (fun j => l.ownBlock = some j) W w') (by kernel_rfl) ?_
 have q : Pq [0, 2, 3] := trivial
 iterate 3
  refine tkN q rfl (by kernel_rfl) hF0 fun K hK => ?_
  replace q := q.tl
  apply Exists.intro
  refine ⟨Or.inl ⟨by kernel_rfl, fun w' hf => ?_⟩, ?_⟩
  ·have s2 := hFi _ hf
   go_simp
   try exact rfl
  go_simp
  refine hK _ ?_
  clear hK K
 refine wpAnyK_one (k := 1) (by kernel_rfl) ?_
 refine wpOp_step rfl (fun K hK => ?_)
 go_simp
 go_at_call 186
 with_reducible refine (sign_any _ _).mono ?_
 rintro e v1 ⟨rfl, hb1⟩
 have hF1 := Only.trans hF0 (only_below hb1)
 have ho1 := own_of hoW hb1
 refine hK _ _ ⟨hF1, ?_⟩
 clear hK K
 refine wpAnyK_one (k := 4) (by kernel_rfl) ?_
 refine wpOp_step rfl (fun K hK => ?_)
 go_simp
 go_at_call 185
 with_reducible refine (name_any _ _).mono ?_
 rintro e v2 ⟨rfl, hb2⟩
 have hF2 := Only.trans hF1 (only_below hb2)
 have ho2 := own_of ho1 hb2
 refine hK _ _ ⟨hF2, ?_⟩
 clear hK K
 refine wpAnyK_one (k := 5) (by kernel_rfl) ?_
 refine wpOp_step rfl (fun K hK => ?_)
 go_simp
 have hF3 : Only (fun j => l.ownBlock = some j) W (v2.alloc (.cells (cellsZ (zs [sg [35], nmT s])).toArray 95)) := Only.trans hF2 (only_below (aB (Below.refl _ _) _))
 have ho3 : (v2.alloc (.cells (cellsZ (zs [sg [35], nmT s])).toArray 95)).ownsRow B 95 4 l M (cellsZ T) := World.ownsRow.alloc ho2 _
 refine hK _ _ ⟨hF3, ?_⟩
 clear hK K
 refine wpAnyK_one (k := 6) (by kernel_rfl) ?_
 refine wpOp_step rfl (fun K hK => ?_)
 refine step_append_lies _ rfl (.tmp 25) (.tmp 30) 62 rfl B 95 i0 _ 4 40 Tryz.underlying62 hi hz0 hz1 hz2 rfl (by decide) l M (cellsZ T) rfl ho3 ⟨v2.heap.size, 0, none⟩ 2 2 (cellsZ (zs [sg [35], nmT s])) rfl rfl (news_ok (cellsZ (zs [sg [35], nmT s])) 95 v2) (cellsZ_one _) (by decide) (by unfold maxLen; omega) (by omega) (Nat.le_trans hBW hF3.size) _ rfl ?_
 intro g cap' v4 hown hgrow hat hlt
 have hT4 := tl_append hown HM.out rfl hgrow hat rfl
 have hF4 := Only.trans hF3 hT4.only
 go_simp
 refine hK _ _ ⟨hF4, ?_⟩
 clear hK K
 refine wpAnyK_one (k := 7) (by kernel_rfl) ?_
 refine wpOp_step rfl (fun K hK => ?_)
 go_simp
 refine hK _ _ ⟨hF4, ?_⟩
 clear hK K
 refine wpAnyK_done (by kernel_rfl) ⟨rfl, ?_⟩
 go_wp2
 go_ret
 exact ⟨_, rfl, tl_fin hBw hF3 hT4⟩
structure KidIn (B : Nat) (w : World) (b off : Nat) (x : Xp) (ma : Option Addr) (cap : Nat) : Prop where
 lt : b < B
 c0 : w.cell? ⟨b, off, none⟩ = some (.int .u8 (x.k : Int))
 c1 : w.cell? ⟨b, off + 1, none⟩ = some (.int .u64 (x.n : Int))
 c2 : w.cell? ⟨b, off + 2, none⟩ = some (.string (str x.s))
 c3 : w.cell? ⟨b, off + 3, none⟩ = some (.int .u8 (x.o : Int))
 c4 : w.cell? ⟨b, off + 4, none⟩ = some (.slice ma x.l.length cap)
 is : IsE (fun b => b < B) w (.agg #[.int .u8 (x.k : Int), .int .u64 (x.n : Int), .string (str x.s), .int .u8 (x.o : Int), .slice ma x.l.length cap]) x
theorem KidIn.only {B : Nat} {w w' : World} {b off : Nat} {x : Xp} {ma : Option Addr} {cap : Nat} {S : Nat → Prop} (h : KidIn B w b off x ma cap) (ho : Only S w w') (hs : ∀ c, c < B → ¬ S c) : KidIn B w' b off x ma cap :=
 ⟨h.lt, ho.cell (hs _ h.lt) h.c0, ho.cell (hs _ h.lt) h.c1, ho.cell (hs _ h.lt) h.c2, ho.cell (hs _ h.lt) h.c3, ho.cell (hs _ h.lt) h.c4, h.is.only ho hs⟩
theorem KidIn.lt' {B : Nat} {w : World} {b off : Nat} {x : Xp} {ma : Option Addr} {cap : Nat} (h : KidIn B w b off x ma cap) : b < w.heap.size := World.block_lt_of_cell? w _ h.c0
theorem kidIn {B : Nat} {w : World} {l : List Xp} {b off : Nat} (h : KidsAt (fun b => b < B) w l (some ⟨b, off, none⟩)) (i : Nat) (hi : i < l.length) : ∃ ma cap, KidIn B w b (off + i * 5) l[i] ma cap := by
 have hk := kids_at l b off h i hi
 obtain ⟨ma, cap, c0, c1, c2, c3, c4, he⟩ := hk.isE
 obtain ⟨_, _, hg, _⟩ := hk.kid
 exact ⟨ma, cap, hg, c0, c1, c2, c3, c4, he⟩
theorem row_apart {B n : Nat} {w : World} {e : TypeId} {size : Nat} {l : Value} {xs : List Value} (h : w.ownsRow B e size l n xs) : ∀ c, c < B → ¬ l.ownBlock = some c := fun c hc => own_new h (.inr hc)
theorem tell_5 (d : Nat) (hIH : TellIH d) (x : Xp) (hmx : mayB d x = true) (s : List UInt8) (b off cap : Nat) (ma : Option Addr) (cap0 : Nat) (B : Nat) (l : Value) (T : List (Tk × Int)) (w : World) (ho : w.ownsRow B 95 4 l T.length (cellsZ T)) (hB : B ≤ w.heap.size) (hK : KidIn B w b off x ma cap0) (hl : T.length + 5 * (1 + x.nodes) ≤ 1000000) (hES0 : ESignsOk w) (hgB : 9 < B) :
 Calls Tryz.prog 165 #[l, .agg #[.int .u8 5, .int .u64 0, .string (str s), .int .u8 0, .slice (some ⟨b, off, none⟩) 1 cap]] w fun r w' => ∃ l', r = .returned l' ∧ Tl B w w' l l' (T ++ zs (nmT s :: sg [91] :: (tellF d x ++ [sg [93]]))) := by
 have htl := tell_len d x hmx
 obtain ⟨i0, hi, hz0, hz1, hz2⟩ := info_parts infoT
 obtain ⟨M, hM⟩ : ∃ M, M = T.length := ⟨_, rfl⟩
 rw [← hM] at ho hl
 have HM := Lib.hid hM
 clear hM
 go_enter Tryz.func165, Tryz.ntmps165
 go_wp2
 obtain ⟨W, hW⟩ : ∃ W, w.alloc (.cells #[.int .u8 5, .int .u64 0, .string (str s), .int .u8 0, .slice (some ⟨b, off, none⟩) 1 cap] 47) = W := ⟨_, rfl⟩
 have hBw : Below w.heap.size w W := by rw [← hW]; exact aB (Below.refl _ _) _
 have hoW0 : W.ownsRow B 95 4 l M (cellsZ T) := own_of ho hBw
 have hn0 : ¬ l.ownBlock = some w.heap.size := own_new ho (.inl (Nat.le_refl _))
 have hap := row_apart ho
 have hBW : B ≤ W.heap.size := Nat.le_trans hB hBw.size
 have b2 : W.cell? ⟨w.heap.size, 2, none⟩ = some (.string (str s)) := by rw [← hW]; exact new_cell _ _ _ 2
 have b4 : W.cell? ⟨w.heap.size, 4, none⟩ = some (.slice (some ⟨b, off, none⟩) 1 cap) := by rw [← hW]; exact new_cell _ _ _ 4
 have hzW : w.heap.size < W.heap.size := by rw [← hW]; simp
 rw [hW]
 clear hW
 have hoW : W.drew.ownsRow B 95 4 l M (cellsZ T) := own_only hoW0 (od1 (S := fun _ => False)) (fun _ _ h => h)
 have hKW := hK.only (only_below (S := fun _ => False) hBw) (fun _ _ h => h)
 have hES := es_only hES0 (only_below (S := fun _ => False) hBw) (fun h => h)
 have hFi : ∀ w', Only (fun j => l.ownBlock = some j) W w' → w'.cell? ⟨w.heap.size, 2, none⟩ = some (.string (str s)) ∧ w'.cell? ⟨w.heap.size, 4, none⟩ = some (.slice (some ⟨b, off, none⟩) 1 cap) ∧ w'.cell? ⟨b, off, none⟩ = some (.int .u8 (x.k : Int)) ∧ w'.cell? ⟨b, off + 1, none⟩ = some (.int .u64 (x.n : Int)) ∧ w'.cell? ⟨b, off + 2, none⟩ = some (.string (str x.s)) ∧ w'.cell? ⟨b, off + 3, none⟩ = some (.int .u8 (x.o : Int)) ∧ w'.cell? ⟨b, off + 4, none⟩ = some (.slice ma x.l.length cap0) ∧ b < w'.heap.size :=
  fun w' h => ⟨h.cell hn0 b2, h.cell hn0 b4, (hKW.only h hap).c0, (hKW.only h hap).c1, (hKW.only h hap).c2, (hKW.only h hap).c3, (hKW.only h hap).c4, (hKW.only h hap).lt'⟩
 have hF0 : Only (fun j => l.ownBlock = some j) W W.drew := od1
 refine region_KN (fun w' => Only (fun j => l.ownBlock = some j) W w') (by kernel_rfl) ?_
 have q : Pq [0, 1, 2, 7, 8, 9, 10] := trivial
 iterate 7
  refine tkN q rfl (by kernel_rfl) hF0 fun K hK => ?_
  replace q := q.tl
  apply Exists.intro
  refine ⟨Or.inl ⟨by kernel_rfl, fun w' hf => ?_⟩, ?_⟩
  ·obtain ⟨s2, s4, k0, k1, k2, k3, k4, kl⟩ := hFi _ hf
   go_simp
   try exact rfl
  go_simp
  refine hK _ ?_
  clear hK K
 refine wpAnyK_one (k := 3) (by kernel_rfl) ?_
 refine wpOp_step rfl (fun K hK => ?_)
 go_simp
 go_at_call 185
 with_reducible refine (name_any _ _).mono ?_
 rintro e v1 ⟨rfl, hb1⟩
 have hF1 := Only.trans hF0 (only_below hb1)
 have ho1 := own_of hoW hb1
 refine hK _ _ ⟨hF1, ?_⟩
 clear hK K
 refine wpAnyK_one (k := 4) (by kernel_rfl) ?_
 refine wpOp_step rfl (fun K hK => ?_)
 go_simp
 go_at_call 186
 with_reducible refine (sign_any _ _).mono ?_
 rintro e v2 ⟨rfl, hb2⟩
 have hF2 := Only.trans hF1 (only_below hb2)
 have ho2 := own_of ho1 hb2
 refine hK _ _ ⟨hF2, ?_⟩
 clear hK K
 refine wpAnyK_one (k := 5) (by kernel_rfl) ?_
 refine wpOp_step rfl (fun K hK => ?_)
 go_simp
 have hF3 : Only (fun j => l.ownBlock = some j) W (v2.alloc (.cells (cellsZ (zs [nmT s, sg [91]])).toArray 95)) := Only.trans hF2 (only_below (aB (Below.refl _ _) _))
 have ho3 : (v2.alloc (.cells (cellsZ (zs [nmT s, sg [91]])).toArray 95)).ownsRow B 95 4 l M (cellsZ T) := World.ownsRow.alloc ho2 _
 refine hK _ _ ⟨hF3, ?_⟩
 clear hK K
 refine wpAnyK_one (k := 6) (by kernel_rfl) ?_
 refine wpOp_step rfl (fun K hK => ?_)
 refine step_append_lies _ rfl (.tmp 34) (.tmp 39) 62 rfl B 95 i0 _ 4 40 Tryz.underlying62 hi hz0 hz1 hz2 rfl (by decide) l M (cellsZ T) rfl ho3 ⟨v2.heap.size, 0, none⟩ 2 2 (cellsZ (zs [nmT s, sg [91]])) rfl rfl (news_ok (cellsZ (zs [nmT s, sg [91]])) 95 v2) (cellsZ_one _) (by decide) (by unfold maxLen; omega) (by omega) (Nat.le_trans hBW hF3.size) _ rfl ?_
 intro g cap' v4 hown hgrow hat hlt
 have hT4 := tl_append hown HM.out rfl hgrow hat rfl
 have hF4 := Only.trans hF3 hT4.only
 go_simp
 refine hK _ _ ⟨hF4, ?_⟩
 clear hK K
 refine wpAnyK_one (k := 11) (by kernel_rfl) ?_
 refine wpOp_step rfl (fun K hK => ?_)
 go_simp
 have hIk := hIH x (.agg #[.int .u8 (x.k : Int), .int .u64 (x.n : Int), .string (str x.s), .int .u8 (x.o : Int), .slice ma x.l.length cap0]) _ (T ++ zs [nmT s, sg [91]]) B v4 hmx (hKW.only hF4 hap).is hT4.own (Nat.le_trans hBW hF4.size) (by simp only [List.length_append, zs_len, List.length_cons, List.length_nil, ← HM.out]; omega) (es_only hES hF4 (hap _ hgB)) hgB
 go_at_call 165
 with_reducible refine hIk.mono ?_
 rintro e v5 ⟨l5, rfl, hU5⟩
 have hT5 := Tl.trans hT4 hU5
 have hF5 := Only.trans hF3 hT5.only
 clear hU5 hIk
 refine hK _ _ ⟨hF5, ?_⟩
 clear hK K
 refine wpAnyK_one (k := 12) (by kernel_rfl) ?_
 refine wpOp_step rfl (fun K hK => ?_)
 go_simp
 refine hK _ _ ⟨hF5, ?_⟩
 clear hK K
 refine wpAnyK_done (by kernel_rfl) ⟨rfl, ?_⟩
 clear hFi
 have hz5 := hBw.size
 have hz6 := Only.size hF5
 have hlM := congrArg List.length (rfl : (T ++ zs [nmT s, sg [91]] ++ zs (tellF d x)) = (T ++ zs [nmT s, sg [91]] ++ zs (tellF d x)))
 obtain ⟨T5, hT5e⟩ : ∃ T5, T5 = (T ++ zs [nmT s, sg [91]] ++ zs (tellF d x)) := ⟨_, rfl⟩
 have hlT5 : T5.length ≤ 1000000 := by rw [hT5e]; simp only [List.length_append, zs_len, List.length_cons, List.length_nil, ← HM.out]; omega
 rw [← hT5e] at hT5
 have HT5 := Lib.hid hT5e
 clear hT5e hlM
 obtain ⟨M5, hM5⟩ : ∃ M5, M5 = T5.length := ⟨_, rfl⟩
 have ho5 := hT5.own
 rw [← hM5] at ho5 hlT5
 have HM5 := Lib.hid hM5
 clear hM5
 go_wp2_with (first | (go_at_call 186; ((with_reducible refine (sign_any _ _).mono ?_); (rintro e y1 ⟨rfl, hby⟩); have hoy := own_of ho5 hby)) | (at_builtin; refine wpList_append_lies _ rfl _ _ 62 rfl B 95 i0 _ 4 40 Tryz.underlying62 hi hz0 hz1 hz2 rfl (by decide) l5 M5 (cellsZ T5) rfl (hoy.alloc _) ⟨y1.heap.size, 0, none⟩ 1 1 (cellsZ (zs [sg [93]])) rfl rfl ?cN ?c0 (by decide) ?c1 ?c2 ?c3 _ rfl ?_))
 case cN => exact news_ok (cellsZ (zs [sg [93]])) 95 y1
 case c0 => exact cellsZ_one _
 case c1 => unfold maxLen; omega
 case c2 => omega
 case c3 => have h1 := hby.size; simp; omega
 intro g2 cap2 y5 hown2 hgrow2 hat2 hlt2
 go_wp2
 go_ret
 have hTz := (hT5.post (aB hby _)).trans (tl_append hown2 HM5.out rfl hgrow2 hat2 (by simp))
 rw [HT5.out] at hTz
 refine ⟨_, rfl, ?_⟩
 have hTy := tl_fin hBw hF3 hTz
 rw [show T ++ zs (nmT s :: sg [91] :: (tellF d x ++ [sg [93]])) = (T ++ zs [nmT s, sg [91]] ++ zs (tellF d x)) ++ zs [sg [93]] from by simp [zs]]
 exact hTy
theorem tell_3 (d : Nat) (hIH : TellIH d) (x y : Xp) (hmx : mayB d x = true) (hmy : mayB d y = true) (o : Nat) (ho256 : o < 256) (b off cap : Nat) (ma : Option Addr) (cap0 : Nat) (mb : Option Addr) (cap1 : Nat) (B : Nat) (l : Value) (T : List (Tk × Int)) (w : World) (ho : w.ownsRow B 95 4 l T.length (cellsZ T)) (hB : B ≤ w.heap.size) (hK : KidIn B w b off x ma cap0) (hK1 : KidIn B w b (off + 5) y mb cap1) (hl : T.length + 5 * (1 + (x.nodes + y.nodes)) ≤ 1000000) (hES0 : ESignsOk w) (hgB : 9 < B) :
 Calls Tryz.prog 165 #[l, .agg #[.int .u8 3, .int .u64 0, .string ⟨#[]⟩, .int .u8 (o : Int), .slice (some ⟨b, off, none⟩) 2 cap]] w fun r w' => ∃ l', r = .returned l' ∧ Tl B w w' l l' (T ++ zs (sg [40] :: (tellF d x ++ sg (opS o) :: (tellF d y ++ [sg [41]])))) := by
 have htl := tell_len d x hmx
 have htl1 := tell_len d y hmy
 obtain ⟨i0, hi, hz0, hz1, hz2⟩ := info_parts infoT
 obtain ⟨M, hM⟩ : ∃ M, M = T.length := ⟨_, rfl⟩
 rw [← hM] at ho hl
 have HM := Lib.hid hM
 clear hM
 go_enter Tryz.func165, Tryz.ntmps165
 go_wp2
 obtain ⟨W, hW⟩ : ∃ W, w.alloc (.cells #[.int .u8 3, .int .u64 0, .string ⟨#[]⟩, .int .u8 (o : Int), .slice (some ⟨b, off, none⟩) 2 cap] 47) = W := ⟨_, rfl⟩
 have hBw : Below w.heap.size w W := by rw [← hW]; exact aB (Below.refl _ _) _
 have hoW0 : W.ownsRow B 95 4 l M (cellsZ T) := own_of ho hBw
 have hn0 : ¬ l.ownBlock = some w.heap.size := own_new ho (.inl (Nat.le_refl _))
 have hap := row_apart ho
 have hBW : B ≤ W.heap.size := Nat.le_trans hB hBw.size
 have b3 : W.cell? ⟨w.heap.size, 3, none⟩ = some (.int .u8 (o : Int)) := by rw [← hW]; exact new_cell _ _ _ 3
 have b4 : W.cell? ⟨w.heap.size, 4, none⟩ = some (.slice (some ⟨b, off, none⟩) 2 cap) := by rw [← hW]; exact new_cell _ _ _ 4
 have hzW : w.heap.size < W.heap.size := by rw [← hW]; simp
 rw [hW]
 clear hW
 have hoW : W.drew.ownsRow B 95 4 l M (cellsZ T) := own_only hoW0 (od1 (S := fun _ => False)) (fun _ _ h => h)
 have hKW := hK.only (only_below (S := fun _ => False) hBw) (fun _ _ h => h)
 have hKW1 := hK1.only (only_below (S := fun _ => False) hBw) (fun _ _ h => h)
 have hES := es_only hES0 (only_below (S := fun _ => False) hBw) (fun h => h)
 have hFi : ∀ w', Only (fun j => l.ownBlock = some j) W w' → w'.cell? ⟨w.heap.size, 4, none⟩ = some (.slice (some ⟨b, off, none⟩) 2 cap) ∧ w'.cell? ⟨b, off, none⟩ = some (.int .u8 (x.k : Int)) ∧ w'.cell? ⟨b, off + 1, none⟩ = some (.int .u64 (x.n : Int)) ∧ w'.cell? ⟨b, off + 2, none⟩ = some (.string (str x.s)) ∧ w'.cell? ⟨b, off + 3, none⟩ = some (.int .u8 (x.o : Int)) ∧ w'.cell? ⟨b, off + 4, none⟩ = some (.slice ma x.l.length cap0) ∧ b < w'.heap.size :=
  fun w' h => ⟨h.cell hn0 b4, (hKW.only h hap).c0, (hKW.only h hap).c1, (hKW.only h hap).c2, (hKW.only h hap).c3, (hKW.only h hap).c4, (hKW.only h hap).lt'⟩
 have hF0 : Only (fun j => l.ownBlock = some j) W W.drew := od1
 refine region_KN (fun w' => Only (fun j => l.ownBlock = some j) W w') (by kernel_rfl) ?_
 have q : Pq [0, 4, 5, 6, 7] := trivial
 iterate 5
  refine tkN q rfl (by kernel_rfl) hF0 fun K hK => ?_
  replace q := q.tl
  apply Exists.intro
  refine ⟨Or.inl ⟨by kernel_rfl, fun w' hf => ?_⟩, ?_⟩
  ·obtain ⟨s4, k0, k1, k2, k3, k4, kl⟩ := hFi _ hf
   go_simp
   try exact rfl
  go_simp
  refine hK _ ?_
  clear hK K
 refine wpAnyK_one (k := 1) (by kernel_rfl) ?_
 refine wpOp_step rfl (fun K hK => ?_)
 go_simp
 go_at_call 186
 with_reducible refine (sign_any _ _).mono ?_
 rintro e v1 ⟨rfl, hb1⟩
 have hF1 := Only.trans hF0 (only_below hb1)
 have ho1 := own_of hoW hb1
 refine hK _ _ ⟨hF1, ?_⟩
 clear hK K
 refine wpAnyK_one (k := 2) (by kernel_rfl) ?_
 refine wpOp_step rfl (fun K hK => ?_)
 go_simp
 have hF2 : Only (fun j => l.ownBlock = some j) W (v1.alloc (.cells (cellsZ (zs [sg [40]])).toArray 95)) := Only.trans hF1 (only_below (aB (Below.refl _ _) _))
 have ho2 : (v1.alloc (.cells (cellsZ (zs [sg [40]])).toArray 95)).ownsRow B 95 4 l M (cellsZ T) := World.ownsRow.alloc ho1 _
 refine hK _ _ ⟨hF2, ?_⟩
 clear hK K
 refine wpAnyK_one (k := 3) (by kernel_rfl) ?_
 refine wpOp_step rfl (fun K hK => ?_)
 refine step_append_lies _ rfl (.tmp 50) (.tmp 52) 62 rfl B 95 i0 _ 4 40 Tryz.underlying62 hi hz0 hz1 hz2 rfl (by decide) l M (cellsZ T) rfl ho2 ⟨v1.heap.size, 0, none⟩ 1 1 (cellsZ (zs [sg [40]])) rfl rfl (news_ok (cellsZ (zs [sg [40]])) 95 v1) (cellsZ_one _) (by decide) (by unfold maxLen; omega) (by omega) (Nat.le_trans hBW hF2.size) _ rfl ?_
 intro g cap' v3 hown hgrow hat hlt
 have hT3 := tl_append hown HM.out rfl hgrow hat rfl
 have hF3 := Only.trans hF2 hT3.only
 go_simp
 refine hK _ _ ⟨hF3, ?_⟩
 clear hK K
 refine wpAnyK_one (k := 8) (by kernel_rfl) ?_
 refine wpOp_step rfl (fun K hK => ?_)
 go_simp
 have hIk := hIH x (.agg #[.int .u8 (x.k : Int), .int .u64 (x.n : Int), .string (str x.s), .int .u8 (x.o : Int), .slice ma x.l.length cap0]) _ (T ++ zs [sg [40]]) B v3 hmx (hKW.only hF3 hap).is hT3.own (Nat.le_trans hBW hF3.size) (by simp only [List.length_append, zs_len, List.length_cons, List.length_nil, ← HM.out]; omega) (es_only hES hF3 (hap _ hgB)) hgB
 go_at_call 165
 with_reducible refine hIk.mono ?_
 rintro e v4 ⟨l4, rfl, hU4⟩
 have hT4 := Tl.trans hT3 hU4
 have hF4 := Only.trans hF2 hT4.only
 clear hU4 hIk
 refine hK _ _ ⟨hF4, ?_⟩
 clear hK K
 refine wpAnyK_one (k := 9) (by kernel_rfl) ?_
 refine wpOp_step rfl (fun K hK => ?_)
 go_simp
 refine hK _ _ ⟨hF4, ?_⟩
 clear hK K
 refine wpAnyK_done (by kernel_rfl) ⟨rfl, ?_⟩
 go_wp2
 clear hFi
 have hFx := hF4
 have hTx := tl_fin (Below.refl _ _) hF2 hT4
 have hap2 : ∀ c, c < B → ¬ l4.ownBlock = some c := row_apart hTx.own
 have hn02 : ¬ l4.ownBlock = some w.heap.size := hTx.apart hzW hn0
 have hlX : (T ++ zs [sg [40]] ++ zs (tellF d x)).length + 5 * y.nodes + 4 ≤ 1000000 := by simp only [List.length_append, zs_len, List.length_cons, List.length_nil, ← HM.out]; omega
 obtain ⟨T2, hT2e⟩ : ∃ T2, T2 = (T ++ zs [sg [40]] ++ zs (tellF d x)) := ⟨_, rfl⟩
 rw [← hT2e] at hTx hlX
 have HT2 := Lib.hid hT2e
 clear hT2e
 obtain ⟨M2, hM2⟩ : ∃ M2, M2 = T2.length := ⟨_, rfl⟩
 have hoX := hTx.own
 rw [← hM2] at hoX hlX
 have HM2 := Lib.hid hM2
 clear hM2 hi hz0 hz1 hz2
 obtain ⟨i0, hi, hz0, hz1, hz2⟩ := info_parts infoT
 obtain ⟨l6, hl6⟩ : ∃ l6, l6 = l4 := ⟨_, rfl⟩
 have c3 := hFx.cell hn0 b3
 have c4 := hFx.cell hn0 b4
 have hKX := hKW1.only hFx hap
 have hEX := es_only hES hFx (hap _ hgB)
 have hBX : B ≤ v4.heap.size := Nat.le_trans hBW hFx.size
 have hFi : ∀ w', Only (fun j => l4.ownBlock = some j) v4 w' → w'.cell? ⟨w.heap.size, 3, none⟩ = some (.int .u8 (o : Int)) ∧ w'.cell? ⟨w.heap.size, 4, none⟩ = some (.slice (some ⟨b, off, none⟩) 2 cap) ∧ w'.cell? ⟨b, off + 5, none⟩ = some (.int .u8 (y.k : Int)) ∧ w'.cell? ⟨b, off + 5 + 1, none⟩ = some (.int .u64 (y.n : Int)) ∧ w'.cell? ⟨b, off + 5 + 2, none⟩ = some (.string (str y.s)) ∧ w'.cell? ⟨b, off + 5 + 3, none⟩ = some (.int .u8 (y.o : Int)) ∧ w'.cell? ⟨b, off + 5 + 4, none⟩ = some (.slice mb y.l.length cap1) ∧ b < w'.heap.size := fun w' h => ⟨h.cell hn02 c3, h.cell hn02 c4, (hKX.only h hap2).c0, (hKX.only h hap2).c1, (hKX.only h hap2).c2, (hKX.only h hap2).c3, (hKX.only h hap2).c4, (hKX.only h hap2).lt'⟩
 have hG0 : Only (fun j => l4.ownBlock = some j) v4 v4.drew := od1
 have hoX1 : v4.drew.ownsRow B 95 4 l4 M2 (cellsZ T2) := own_only hoX (od1 (S := fun _ => False)) (fun _ _ h => h)
 have hz9 := hFx.size
 refine region_KN (fun w' => Only (fun j => l4.ownBlock = some j) v4 w') (by kernel_rfl) ?_
 have q : Pq [0, 1, 2, 7, 8, 9, 10] := trivial
 iterate 7
  refine tkN q rfl (by kernel_rfl) hG0 fun K hK => ?_
  replace q := q.tl
  apply Exists.intro
  refine ⟨Or.inl ⟨by kernel_rfl, fun w' hf => ?_⟩, ?_⟩
  ·obtain ⟨s3, s4, k0, k1, k2, k3, k4, kl⟩ := hFi _ hf
   go_simp
   try exact rfl
  go_simp
  refine hK _ ?_
  clear hK K
 refine wpAnyK_one (k := 3) (by kernel_rfl) ?_
 refine wpOp_step rfl (fun K hK => ?_)
 go_simp
 go_at_call 187
 with_reducible refine (signOf_es o ho256 _ (es_only hEX hG0 (hap2 _ hgB))).mono ?_
 rintro e v21 ⟨rfl, rfl⟩
 refine hK _ _ ⟨hG0, ?_⟩
 clear hK K
 refine wpAnyK_one (k := 4) (by kernel_rfl) ?_
 refine wpOp_step rfl (fun K hK => ?_)
 go_simp
 go_at_call 186
 with_reducible refine (sign_any _ _).mono ?_
 rintro e v22 ⟨rfl, hb22⟩
 have hF22 := Only.trans hG0 (only_below hb22)
 have ho22 := own_of hoX1 hb22
 refine hK _ _ ⟨hF22, ?_⟩
 clear hK K
 refine wpAnyK_one (k := 5) (by kernel_rfl) ?_
 refine wpOp_step rfl (fun K hK => ?_)
 go_simp
 have hF23 : Only (fun j => l4.ownBlock = some j) v4 (v22.alloc (.cells (cellsZ (zs [sg (opS o)])).toArray 95)) := Only.trans hF22 (only_below (aB (Below.refl _ _) _))
 have ho23 : (v22.alloc (.cells (cellsZ (zs [sg (opS o)])).toArray 95)).ownsRow B 95 4 l4 M2 (cellsZ T2) := World.ownsRow.alloc ho22 _
 refine hK _ _ ⟨hF23, ?_⟩
 clear hK K
 refine wpAnyK_one (k := 6) (by kernel_rfl) ?_
 refine wpOp_step rfl (fun K hK => ?_)
 refine step_append_lies _ rfl (.tmp 59) (.tmp 64) 62 rfl B 95 i0 _ 4 40 Tryz.underlying62 hi hz0 hz1 hz2 rfl (by decide) l4 M2 (cellsZ T2) rfl ho23 ⟨v22.heap.size, 0, none⟩ 1 1 (cellsZ (zs [sg (opS o)])) rfl rfl (news_ok (cellsZ (zs [sg (opS o)])) 95 v22) (cellsZ_one _) (by decide) (by unfold maxLen; omega) (by omega) (Nat.le_trans hBX hF23.size) _ rfl ?_
 intro g cap' v24 hown hgrow hat hlt
 have hT24 := tl_append hown HM2.out rfl hgrow hat rfl
 have hF24 := Only.trans hF23 hT24.only
 go_simp
 refine hK _ _ ⟨hF24, ?_⟩
 clear hK K
 refine wpAnyK_one (k := 11) (by kernel_rfl) ?_
 refine wpOp_step rfl (fun K hK => ?_)
 go_simp
 have hIk := hIH y (.agg #[.int .u8 (y.k : Int), .int .u64 (y.n : Int), .string (str y.s), .int .u8 (y.o : Int), .slice mb y.l.length cap1]) _ (T2 ++ zs [sg (opS o)]) B v24 hmy (hKX.only hF24 hap2).is hT24.own (Nat.le_trans hBX hF24.size) (by simp only [List.length_append, zs_len, List.length_cons, List.length_nil, ← HM2.out]; omega) (es_only hEX hF24 (hap2 _ hgB)) hgB
 go_at_call 165
 with_reducible refine hIk.mono ?_
 rintro e v25 ⟨l25, rfl, hU25⟩
 have hT25 := Tl.trans hT24 hU25
 have hF25 := Only.trans hF23 hT25.only
 clear hU25 hIk
 refine hK _ _ ⟨hF25, ?_⟩
 clear hK K
 refine wpAnyK_one (k := 12) (by kernel_rfl) ?_
 refine wpOp_step rfl (fun K hK => ?_)
 go_simp
 refine hK _ _ ⟨hF25, ?_⟩
 clear hK K
 refine wpAnyK_done (by kernel_rfl) ⟨rfl, ?_⟩
 clear hFi
 have hz6 := Only.size hF25
 have hlM := congrArg List.length (rfl : (T2 ++ zs [sg (opS o)] ++ zs (tellF d y)) = (T2 ++ zs [sg (opS o)] ++ zs (tellF d y)))
 obtain ⟨T5, hT5e⟩ : ∃ T5, T5 = (T2 ++ zs [sg (opS o)] ++ zs (tellF d y)) := ⟨_, rfl⟩
 have hlT5 : T5.length ≤ 1000000 := by rw [hT5e]; simp only [List.length_append, zs_len, List.length_cons, List.length_nil, ← HM2.out]; omega
 rw [← hT5e] at hT25
 have HT5 := Lib.hid hT5e
 clear hT5e hlM
 obtain ⟨M5, hM5⟩ : ∃ M5, M5 = T5.length := ⟨_, rfl⟩
 have ho5 := hT25.own
 rw [← hM5] at ho5 hlT5
 have HM5 := Lib.hid hM5
 clear hM5
 go_wp2_with (first | (go_at_call 186; ((with_reducible refine (sign_any _ _).mono ?_); (rintro e y1 ⟨rfl, hby⟩); have hoy := own_of ho5 hby)) | (at_builtin; refine wpList_append_lies _ rfl _ _ 62 rfl B 95 i0 _ 4 40 Tryz.underlying62 hi hz0 hz1 hz2 rfl (by decide) l25 M5 (cellsZ T5) rfl (hoy.alloc _) ⟨y1.heap.size, 0, none⟩ 1 1 (cellsZ (zs [sg [41]])) rfl rfl ?cN ?c0 (by decide) ?c1 ?c2 ?c3 _ rfl ?_))
 case cN => exact news_ok (cellsZ (zs [sg [41]])) 95 y1
 case c0 => exact cellsZ_one _
 case c1 => unfold maxLen; omega
 case c2 => omega
 case c3 => have h1 := hby.size; simp; omega
 intro g2 cap2 y5 hown2 hgrow2 hat2 hlt2
 go_wp2
 go_ret
 have hTz := (hT25.post (aB hby _)).trans (tl_append hown2 HM5.out rfl hgrow2 hat2 (by simp))
 rw [HT5.out] at hTz
 have hTy := hTx.trans (tl_fin (Below.refl _ _) hF23 hTz)
 rw [HT2.out] at hTy
 refine ⟨_, rfl, ?_⟩
 rw [show T ++ zs (sg [40] :: (tellF d x ++ sg (opS o) :: (tellF d y ++ [sg [41]]))) = (T ++ zs [sg [40]] ++ zs (tellF d x)) ++ zs [sg (opS o)] ++ zs (tellF d y) ++ zs [sg [41]] from by simp [zs]]
 exact hTy.pre hBw
def ob (v : Value) (T : List (Tk × Int)) : Option Nat := if T = [] then none else v.ownBlock
theorem RowZ.onlyo {w w' : World} {v : Value} {T : List (Tk × Int)} {S : Nat → Prop} (h : RowZ w v T) (ho : Only S w w') (hn : ∀ j, ob v T = some j → ¬ S j) : RowZ w' v T := by
 by_cases e : T = []
 ·subst e
  obtain ⟨ma, c, rfl, hc⟩ := h.row
  exact ⟨ma, c, rfl, fun i hi => by simp at hi⟩
 ·exact h.only ho (fun j hj => hn j (by unfold ob; rw [if_neg e]; exact hj))
structure IsRd (w : World) (rb : Nat) (v : Value) (T : List (Tk × Int)) (p d : Int) : Prop where
 c0 : w.cell? ⟨rb, 0, none⟩ = some v
 c1 : w.cell? ⟨rb, 1, none⟩ = some (.int .i64 p)
 c2 : w.cell? ⟨rb, 2, none⟩ = some (.int .i64 d)
 f : ∀ k, w.frozen? ⟨rb, k, none⟩ = false
 row : RowZ w v T
 ne : ¬ ob v T = some rb
 len : T.length ≤ 140737488355328
 lo : -9223372036854775808 ≤ p
 hi : p < 9223372036854775808
theorem IsRd.lt {w : World} {rb : Nat} {v : Value} {T : List (Tk × Int)} {p d : Int} (h : IsRd w rb v T p d) : rb < w.heap.size := World.block_lt_of_cell? w _ h.c0
theorem IsRd.of {w w' : World} {rb : Nat} {v : Value} {T : List (Tk × Int)} {p d : Int} (h : IsRd w rb v T p d) (hb : Below w.heap.size w w') : IsRd w' rb v T p d :=
 { h with c0 := stay hb h.c0, c1 := stay hb h.c1, c2 := stay hb h.c2, f := fun k => ((hb.frozen (p := ⟨rb, k, none⟩) h.lt).trans (h.f k)), row := h.row.of hb }
theorem IsRd.only {w w' : World} {rb : Nat} {v : Value} {T : List (Tk × Int)} {p d : Int} {S : Nat → Prop} (h : IsRd w rb v T p d) (ho : Only S w w') (h1 : ¬ S rb) (h2 : ∀ j, ob v T = some j → ¬ S j) : IsRd w' rb v T p d :=
 { h with c0 := ho.cell h1 h.c0, c1 := ho.cell h1 h.c1, c2 := ho.cell h1 h.c2, f := fun k => ((ho.frozen (a := ⟨rb, k, none⟩) h.lt h1).trans (h.f k)), row := h.row.onlyo ho h2 }
theorem only_one (w : World) (b o : Nat) (v : Value) : Only (fun j => j = b) w (w.setCell ⟨b, o, none⟩ v) := (Only.refl _ w).setCell rfl
def tokAt (T : List (Tk × Int)) (p : Int) : Tk := if 0 ≤ p then (T.getD p.toNat (⟨0, [], 0⟩, 0)).1 else ⟨0, [], 0⟩
abbrev tokV (t : Tk) : Value := .agg #[.int .u8 (t.k : Int), .string (str t.t), .int .u64 (t.n : Int), .int .i64 0]
theorem region_below {P : Program} {id : Nat} {Q : Exit → Act → World → Prop} {a : Act} {w : World} {l : List Oper} (hm : P.follows .mixedOrders = true) (hB : Region.lexB .any l.toArray = true)
 (h : wpQuiet P l.toArray (fun w' => Below w.heap.size w w') (fun a' => ∀ w', Below w.heap.size w w' → Q .normal a' w') l a) : (Code.region id l.toArray true).wp P Q a w :=
 wp_region_quiet (C := fun w' => Below w.heap.size w w') hm hB (bdN (Below.refl _ w) 1) h
structure TkP (w w' : World) (rb : Nat) (v : Value) (T : List (Tk × Int)) (p d : Int) : Prop where
 rd : IsRd w' rb v T p d
 only : Only (fun j => j = rb) w w'
theorem IsRd.row_sl {w : World} {rb : Nat} {v : Value} {T : List (Tk × Int)} {p d : Int} (h : IsRd w rb v T p d) : ∃ ma c, v = .slice ma T.length c := by
 obtain ⟨ma, c, hv, _⟩ := h.row.row
 exact ⟨ma, c, hv⟩
theorem IsRd.np {w : World} {rb : Nat} {v : Value} {T : List (Tk × Int)} {p d : Int} (h : IsRd w rb v T p d) {b : Nat} {a : Option Addr} (hb : w.cell? ⟨b, 0, none⟩ = some (.pointer a)) : ¬ b = rb := by
 intro e
 subst e
 obtain ⟨ma, c, hv⟩ := h.row_sl
 have := h.c0.symm.trans hb
 rw [hv] at this
 cases this
def kindN (T : List (Tk × Int)) (p : Int) : Nat := if (tokAt T p).k = 3 then 1 else if tokAt T p = sg [35] then 4 else if tokAt T p = sg [40] then 3 else if tokAt T (p + 1) = sg [91] then 5 else 2
def SgF (w : World) (rb : Nat) (s : List UInt8) (f : Value) : Prop := ∃ br bs, f = .func (.func 203) #[] #[.pointer (some ⟨br, 0, none⟩), .pointer (some ⟨bs, 0, none⟩)] ∧ w.cell? ⟨br, 0, none⟩ = some (.pointer (some ⟨rb, 0, none⟩)) ∧ w.cell? ⟨bs, 0, none⟩ = some (.string (str s))
theorem SgF.of {w w' : World} {rb : Nat} {s : List UInt8} {f : Value} (h : SgF w rb s f) (hb : Below w.heap.size w w') : SgF w' rb s f := by
 obtain ⟨br, bs, rfl, h1, h2⟩ := h
 exact ⟨br, bs, rfl, stay hb h1, stay hb h2⟩
abbrev bnd (f rb : Nat) : Value := .func (.func f) #[.pointer (some ⟨rb, 0, none⟩)] #[]
theorem same07 : ∀ (K : Nat) (e : Xp), e.nodes ≤ K → ∀ (w : World) (v1 v2 : Value) (G1 G2 : Nat → Prop), IsE G1 w v1 e → IsE G2 w v2 e →
 Calls Tryz.prog 47 #[v1, v2] w fun r w' => r = .returned (.bool true) ∧ Below w.heap.size w w' := by
 intro K
 induction K with
 | zero => intro e h; have := nodes_pos e; omega
 | succ K ih =>
  intro e hn w v1 v2 G1 G2 h1 h2
  cases h1 with
  | @mk k n s o l ma cap ho hl hk =>
   cases h2 with
   | @mk _ _ _ _ _ mb cap2 _ _ hk2 =>
    have HIH := Lib.hid ih
    have hno : ∀ i (h : i < l.length), l[i].nodes ≤ K := fun i h => by
     have := nodesL_mem (List.getElem_mem h)
     rw [Xp.nodes] at hn
     omega
    have HN := Lib.hid hno
    have HK := Lib.hid hk
    have HK2 := Lib.hid hk2
    obtain ⟨N, hN⟩ : ∃ N, N = l.length := ⟨_, rfl⟩
    rw [← hN] at hl ⊢
    have HL := Lib.hid hN
    clear ih hno hk hk2 hN hn
    go_enter Tryz.func47, Tryz.ntmps47
    go_wp2
    obtain ⟨W, hW⟩ : ∃ W, (w.alloc (.cells #[.int .u8 (k : Int), .int .u64 (n : Int), .string (str s), .int .u8 (o : Int), .slice ma N cap] 47)).alloc (.cells #[.int .u8 (k : Int), .int .u64 (n : Int), .string (str s), .int .u8 (o : Int), .slice mb N cap2] 47) = W := ⟨_, rfl⟩
    have hBw : Below w.heap.size w W := by rw [← hW]; exact aB (aB (Below.refl _ _) _) _
    have b1 : W.cell? ⟨w.heap.size, 4, none⟩ = some (.slice ma N cap) := by rw [← hW]; exact (World.cell?_alloc_lt _ _ ⟨w.heap.size, 4, none⟩ (by simp)).trans (new_cell w _ _ 4)
    have b2 : W.cell? ⟨w.heap.size + 1, 4, none⟩ = some (.slice mb N cap2) := by
     rw [← hW]
     have := new_cell (w.alloc (.cells #[.int .u8 (k : Int), .int .u64 (n : Int), .string (str s), .int .u8 (o : Int), .slice ma N cap] 47)) #[.int .u8 (k : Int), .int .u64 (n : Int), .string (str s), .int .u8 (o : Int), .slice mb N cap2] 47 4
     rw [World.size_alloc] at this
     exact this
    have hz : w.heap.size + 1 < W.heap.size := by rw [← hW]; simp
    rw [hW]
    clear hW
    go_loopw [5] (fun i wr => ∃ j : Nat, j ≤ N ∧ i = .int .i64 (j : Int) ∧ Below W.heap.size W wr) (fun i _ => N - (intOf i).toNat)
    case atStart => exact ⟨0, Nat.zero_le _, rfl, Below.refl _ _⟩
    case round =>
     obtain ⟨j, hj, rfl, hB⟩ := hrel
     have a1 := stay hB b1
     have a2 := stay hB b2
     have hz1 : w.heap.size + 1 < wr.heap.size := Nat.lt_of_lt_of_le hz hB.size
     have hz0 : w.heap.size < wr.heap.size := by omega
     by_cases hlt : j < N
     ·have hlt' : j < l.length := by rw [← HL.out]; exact hlt
      obtain ⟨g1, o1, rfl⟩ := kids_some HK.out (by omega)
      obtain ⟨g2, o2, rfl⟩ := kids_some HK2.out (by omega)
      obtain ⟨ma', cap', c0, c1, c2, c3, c4, hE1⟩ := (kids_at l g1 o1 HK.out j hlt').isE
      obtain ⟨mb', cap2', d0, d1, d2, d3, d4, hE2⟩ := (kids_at l g2 o2 HK2.out j hlt').isE
      have hBr : Below w.heap.size w wr := hBw.trans (hB.mono hBw.size)
      have q0 := stay hBr c0
      have q1 := stay hBr c1
      have q2 := stay hBr c2
      have q3 := stay hBr c3
      have q4 := stay hBr c4
      have r0 := stay hBr d0
      have r1 := stay hBr d1
      have r2 := stay hBr d2
      have r3 := stay hBr d3
      have r4 := stay hBr d4
      have hI := fun w' (hb : Below wr.heap.size wr w') => HIH.out l[j] (HN.out j hlt') w' _ _ _ _ ((hE1.of hBr).of hb) ((hE2.of hBr).of hb)
      clear hE1 hE2 c0 c1 c2 c3 c4 d0 d1 d2 d3 d4
      go_wp2
      refine region_below (by kernel_rfl) (by kernel_rfl) ?_
      repeat (first
       | go_big_quiet_skip
       | (refine BigFrame.wpQuiet_want (by kernel_rfl) fun K hK => ?_
          apply Exists.intro
          refine ⟨fun w' hb' => ?_, ?_⟩
          ·have s0 := stay hb' a1
           have s1 := stay hb' a2
           have s2 := stay hb' q0
           have s3 := stay hb' q1
           have s4 := stay hb' q2
           have s5 := stay hb' q3
           have s6 := stay hb' q4
           have s7 := stay hb' r0
           have s8 := stay hb' r1
           have s9 := stay hb' r2
           have s10 := stay hb' r3
           have s11 := stay hb' r4
           go_simp
           first
            | exact rfl
            | exact ⟨rfl, hb'⟩
            | (go_at_call 47
               exact (hI _ hb').mono fun e w'' ⟨he, hb2⟩ => ⟨he, below_trans' hb' (Nat.le_refl _) hb2⟩)
          go_simp
          refine hK _ ?_
          clear hK K))
      refine wpQuiet_nil ?_
      intro w2 hb2
      go_wp2
      go_roundw
      case rel => exact ⟨j + 1, by omega, by go_num, hB.trans (hb2.mono hB.size)⟩
      case measure => first | (simp [intOf]; done) | (simp [intOf]; omega)
     ·obtain rfl : j = N := by omega
      go_wp2
      go_ret
      exact ⟨rfl, hBw.trans (hB.mono hBw.size)⟩
def GB (j : Nat) : Prop := j = 4 ∨ j = 2 ∨ j = 5 ∨ j = 0 ∨ j = 7 ∨ j = 8 ∨ j = 9 ∨ j = 1
theorem var_only {S : Nat → Prop} {w w' : World} (ho : Only S w w') {n : String} {g : Nat} {cs : Array Value} (hg : Tryz.prog.globalNamed n = some g) (hn : ¬ S g) (h : w.var? Tryz.prog n = some cs) : w'.var? Tryz.prog n = some cs := by
 unfold World.var? at h ⊢
 rw [hg] at h ⊢
 simp only [Option.bind_some] at h ⊢
 have hlt : g < w.heap.size := by
  rcases Nat.lt_or_ge g w.heap.size with h1 | h1
  ·exact h1
  ·rw [Array.getElem?_eq_none h1] at h; simp at h
 rw [ho.block g hlt hn]
 exact h
theorem Tb.only {S : Nat → Prop} {w w' : World} (h : Tb w) (ho : Only S w w') (hn : ∀ j, GB j → ¬ S j) : Tb w' :=
 ⟨fun j hj => ho.cell (hn _ (by unfold GB; simp)) (h.words j hj), fun j hj => ho.cell (hn _ (by unfold GB; simp)) (h.signs j hj), var_only ho (g := 5) (by kernel_rfl) (hn _ (by unfold GB; simp)) h.pow, ho.cell (hn _ (by unfold GB; simp)) h.ety,
  let ⟨a, b, c⟩ := h.syn; ⟨a, b, var_only ho (g := 7) (by kernel_rfl) (hn _ (by unfold GB; simp)) c⟩, let ⟨a, b, c⟩ := h.ran; ⟨a, b, var_only ho (g := 8) (by kernel_rfl) (hn _ (by unfold GB; simp)) c⟩, fun j hj => ho.cell (hn _ (by unfold GB; simp)) (h.esg j hj), fun j hj => ho.cell (hn _ (by unfold GB; simp)) (h.kn j hj)⟩
theorem var_lt {w : World} {n : String} {g : Nat} {cs : Array Value} (hg : Tryz.prog.globalNamed n = some g) (h : w.var? Tryz.prog n = some cs) : g < w.heap.size := by
 unfold World.var? at h
 rw [hg] at h
 simp only [Option.bind_some] at h
 rcases Nat.lt_or_ge g w.heap.size with h1 | h1
 ·exact h1
 ·rw [Array.getElem?_eq_none h1] at h; simp at h
theorem Tb.lt {w : World} (h : Tb w) {j : Nat} (hj : GB j) : j < w.heap.size := by
 rcases hj with rfl | rfl | rfl | rfl | rfl | rfl | rfl | rfl
 ·exact World.block_lt_of_cell? w _ (h.words 0 (by omega))
 ·exact World.block_lt_of_cell? w _ (h.signs 0 (by omega))
 ·exact var_lt (by kernel_rfl) h.pow
 ·exact World.block_lt_of_cell? w _ h.ety
 ·obtain ⟨a, b, c⟩ := h.syn; exact var_lt (by kernel_rfl) c
 ·obtain ⟨a, b, c⟩ := h.ran; exact var_lt (by kernel_rfl) c
 ·exact World.block_lt_of_cell? w _ (h.esg 0 (by omega))
 ·exact World.block_lt_of_cell? w _ (h.kn 0 (by omega))
structure Bx (w : World) (eb rb : Nat) (v : Option Nat) (c0 c1 c2 c3 c4 : Value) : Prop where
 row : rowG #[c0, c1, c2, c3, c4] w eb
 n1 : ¬ eb = rb
 n2 : ¬ v = some eb
theorem Bx.e {w : World} {eb rb : Nat} {v : Option Nat} {c0 c1 c2 c3 c4 : Value} (h : Bx w eb rb v c0 c1 c2 c3 c4) : w.cell? ⟨eb, 0, none⟩ = some c0 ∧ w.cell? ⟨eb, 1, none⟩ = some c1 ∧ w.cell? ⟨eb, 2, none⟩ = some c2 ∧ w.cell? ⟨eb, 3, none⟩ = some c3 ∧ w.cell? ⟨eb, 4, none⟩ = some c4 ∧ eb < w.heap.size ∧ ∀ k, w.frozen? ⟨eb, k, none⟩ = false :=
 ⟨h.row.1 0 (by simp), h.row.1 1 (by simp), h.row.1 2 (by simp), h.row.1 3 (by simp), h.row.1 4 (by simp), h.row.2.2, h.row.2.1⟩
theorem Bx.of {w w' : World} {eb rb : Nat} {v : Option Nat} {c0 c1 c2 c3 c4 : Value} (h : Bx w eb rb v c0 c1 c2 c3 c4) (hb : Below w.heap.size w w') : Bx w' eb rb v c0 c1 c2 c3 c4 := { h with row := rowG_b h.row hb }
theorem Bx.only {w w' : World} {eb rb : Nat} {v : Option Nat} {c0 c1 c2 c3 c4 : Value} {S : Nat → Prop} (h : Bx w eb rb v c0 c1 c2 c3 c4) (ho : Only S w w') (hs : ¬ S eb) : Bx w' eb rb v c0 c1 c2 c3 c4 := { h with row := rowG_only h.row ho hs }
theorem row5_set {c0 c1 c2 c3 c4 : Value} (i : Nat) (hi : i < 5) (u : Value) {w : World} {k : Nat} (h : rowG #[c0, c1, c2, c3, c4] w k) : rowG (#[c0, c1, c2, c3, c4].set! i u) (w.setCell ⟨k, i, none⟩ u) k := by
 refine ⟨fun j hj => ?_, fun j => by rw [World.frozen?_setCell]; exact h.2.1 j, by rw [World.size_setCell]; exact h.2.2⟩
 have hj' : j < 5 := by simpa using hj
 have hc := h.1 j (by simpa using hj')
 by_cases e : j = i
 ·subst e
  rw [cset_same (u := #[c0, c1, c2, c3, c4][j]) (by rw [hc]; exact Array.getElem?_eq_getElem (by simpa using hj'))]
  rw [Array.set!_eq_setIfInBounds, Array.getElem?_setIfInBounds]
  simp [hj']
 ·rw [cset (u := #[c0, c1, c2, c3, c4][j]'(by simpa using hj')) (by rw [hc]; exact Array.getElem?_eq_getElem (by simpa using hj')) e]
  rw [Array.set!_eq_setIfInBounds, Array.getElem?_setIfInBounds, if_neg (fun h => e h.symm)]
  exact (Array.getElem?_eq_getElem (by simpa using hj')).symm
structure PtP (w w' : World) (eb rb : Nat) (v : Value) (T : List (Tk × Int)) (p d : Int) (c0 c1 c2 c3 c4 : Value) : Prop where
 rd : IsRd w' rb v T p d
 bx : Bx w' eb rb (ob v T) c0 c1 c2 c3 c4
 only : Only (fun j => j = rb ∨ j = eb) w w'
theorem PtP.post {w w1 w' : World} {eb rb : Nat} {v : Value} {T : List (Tk × Int)} {p d : Int} {c0 c1 c2 c3 c4 : Value} (ho : Only (fun j => j = rb ∨ j = eb) w w1) (h : Bx w1 eb rb (ob v T) c0 c1 c2 c3 c4) (k : TkP w1 w' rb v T p d) : PtP w w' eb rb v T p d c0 c1 c2 c3 c4 :=
 ⟨k.rd, h.only k.only h.n1, ho.trans (k.only.mono fun j hj => .inl hj)⟩
theorem Only.cut {S : Nat → Prop} {a b : World} (h : Only (fun j => S j ∨ a.heap.size ≤ j) a b) : Only S a b :=
 ⟨h.os, h.tape, h.output, h.size, fun j hj hs => h.block j hj (fun hh => hh.elim hs (fun h1 => absurd hj (by omega)))⟩
theorem own_new' {w : World} {B n : Nat} {e : TypeId} {size : Nat} {l : Value} {xs : List Value} {c : Nat} (h : w.ownsRow B e size l n xs) (hc : w.heap.size ≤ c ∨ c < B) : ¬ l.ownBlock = some c := fun e => by
 have := own_lt h e
 omega
structure KdC (w1 w' : World) (rb eb B : Nat) (v : Value) (T : List (Tk × Int)) (q d : Int) (c0 c1 c2 c3 lv lv' : Value) (N : Nat) (xs : List Value) : Prop where
 rd : IsRd w' rb v T q d
 bx : Bx w' eb rb (ob v T) c0 c1 c2 c3 lv'
 own : w'.ownsRow B 47 5 lv' N xs
 blk : ∀ j, lv'.ownBlock = some j → lv.ownBlock = some j ∨ w1.heap.size ≤ j
 only : Only (fun j => j = eb ∨ lv.ownBlock = some j) w1 w'
abbrev zX : Value := .agg #[.int .u8 0, .int .u64 0, .string ⟨#[]⟩, .int .u8 0, .slice none 0 0]
abbrev vX (k n : Int) (s : ByteArray) (o : Int) (ma : Option Addr) (m cap : Nat) : Value := .agg #[.int .u8 k, .int .u64 n, .string s, .int .u8 o, .slice ma m cap]
def bareZ (T : List (Tk × Int)) : List Tk := T.map (·.1)
def ExEr (w : World) (rb : Nat) (v : Value) (T : List (Tk × Int)) (c q : Int) (e : Ending) (w' : World) : Prop :=
 e = .returned (.tuple #[zX, .int .i64 c]) ∧ (∃ d', IsRd w' rb v T q d') ∧ Only (fun j => j = rb) w w'
def ExOk (w : World) (rb : Nat) (v : Value) (T : List (Tk × Int)) (d : Int) (x : Xp) (q : Int) (e : Ending) (w' : World) : Prop :=
 ∃ (k n : Int) (s : ByteArray) (o : Int) (ma : Option Addr) (m cap : Nat), e = .returned (.tuple #[vX k n s o ma m cap, .int .i64 0]) ∧ IsRd w' rb v T q d ∧ Only (fun j => j = rb) w w' ∧ IsE (fun b => w.heap.size ≤ b ∧ b < w'.heap.size) w' (vX k n s o ma m cap) x
def ExP (w : World) (rb : Nat) (v : Value) (T : List (Tk × Int)) (d : Int) (R : Ro) (e : Ending) (w' : World) : Prop :=
 match R with
 | .er c q => ExEr w rb v T (c : Int) (q : Int) e w'
 | .ok x q => ExOk w rb v T d x (q : Int) e w'
structure Kr1 (w : World) (eb B : Nat) (lv : Value) (x : Xp) : Prop where
 kid : ∃ (g cap' : Nat) (k n : Int) (s : ByteArray) (o : Int) (ma : Option Addr) (m cap : Nat), lv = .slice (some ⟨g, 0, none⟩) 1 cap' ∧ w.ownsRow B 47 5 lv 1 [.int .u8 k, .int .u64 n, .string s, .int .u8 o, .slice ma m cap] ∧ ¬ g = eb ∧
  IsE (fun c => B ≤ c ∧ c < w.heap.size ∧ ¬ c = eb ∧ ¬ c = g) w (vX k n s o ma m cap) x
structure Kr2 (w : World) (eb B : Nat) (lv : Value) (x y : Xp) : Prop where
 kid : ∃ (g cap' : Nat) (k n : Int) (s : ByteArray) (o : Int) (ma : Option Addr) (m cap : Nat) (k2 n2 : Int) (s2 : ByteArray) (o2 : Int) (ma2 : Option Addr) (m2 cap2 : Nat), lv = .slice (some ⟨g, 0, none⟩) 2 cap' ∧
  w.ownsRow B 47 5 lv 2 [.int .u8 k, .int .u64 n, .string s, .int .u8 o, .slice ma m cap, .int .u8 k2, .int .u64 n2, .string s2, .int .u8 o2, .slice ma2 m2 cap2] ∧ ¬ g = eb ∧
  IsE (fun c => B ≤ c ∧ c < w.heap.size ∧ ¬ c = eb ∧ ¬ c = g) w (vX k n s o ma m cap) x ∧ IsE (fun c => B ≤ c ∧ c < w.heap.size ∧ ¬ c = eb ∧ ¬ c = g) w (vX k2 n2 s2 o2 ma2 m2 cap2) y
theorem Kr1.only {w w' : World} {eb rb B : Nat} {lv : Value} {x : Xp} (h : Kr1 w eb B lv x) (ho : Only (fun j => j = rb ∨ j = eb) w w') (hr : rb < B) : Kr1 w' eb B lv x := by
 obtain ⟨g, cap', k, n, s, o, ma, m, cap, rfl, hown, hge, hE⟩ := h.kid
 have hg : B ≤ g := (own_lt hown rfl).1
 refine ⟨g, cap', k, n, s, o, ma, m, cap, rfl, own_only hown ho (fun j hj e => ?_), hge, ?_⟩
 ·simp only [Value.ownBlock, Option.some.injEq] at hj
  subst hj
  rcases e with e | e
  ·omega
  ·exact hge e
 ·exact (hE.only ho (fun b hb e => by rcases e with e | e; · omega
                                      ·exact hb.2.2.1 e)).mono (fun b hb => ⟨hb.1, Nat.lt_of_lt_of_le hb.2.1 ho.size, hb.2.2⟩)
theorem Kr2.only {w w' : World} {eb rb B : Nat} {lv : Value} {x y : Xp} (h : Kr2 w eb B lv x y) (ho : Only (fun j => j = rb ∨ j = eb) w w') (hr : rb < B) : Kr2 w' eb B lv x y := by
 obtain ⟨g, cap', k, n, s, o, ma, m, cap, k2, n2, s2, o2, ma2, m2, cap2, rfl, hown, hge, hE, hE2⟩ := h.kid
 have hg : B ≤ g := (own_lt hown rfl).1
 have hs : ∀ b, (B ≤ b ∧ b < w.heap.size ∧ ¬ b = eb ∧ ¬ b = g) → ¬ (b = rb ∨ b = eb) := fun b hb e => by
  rcases e with e | e
  ·omega
  ·exact hb.2.2.1 e
 refine ⟨g, cap', k, n, s, o, ma, m, cap, k2, n2, s2, o2, ma2, m2, cap2, rfl, own_only hown ho (fun j hj e => ?_), hge, (hE.only ho hs).mono (fun b hb => ⟨hb.1, Nat.lt_of_lt_of_le hb.2.1 ho.size, hb.2.2⟩), (hE2.only ho hs).mono (fun b hb => ⟨hb.1, Nat.lt_of_lt_of_le hb.2.1 ho.size, hb.2.2⟩)⟩
 simp only [Value.ownBlock, Option.some.injEq] at hj
 subst hj
 rcases e with e | e
 ·omega
 ·exact hge e
theorem kid_of {G : Nat → Prop} {w : World} {g off : Nat} {k n : Int} {s : ByteArray} {o : Int} {ma : Option Addr} {m cap : Nat} {x : Xp} {r : List Xp} (hE : IsE G w (vX k n s o ma m cap) x) (hg : G g) (c0 : w.cell? ⟨g, off, none⟩ = some (.int .u8 k)) (c1 : w.cell? ⟨g, off + 1, none⟩ = some (.int .u64 n))
 (c2 : w.cell? ⟨g, off + 2, none⟩ = some (.string s)) (c3 : w.cell? ⟨g, off + 3, none⟩ = some (.int .u8 o)) (c4 : w.cell? ⟨g, off + 4, none⟩ = some (.slice ma m cap)) (hr : KidsAt G w r (some ⟨g, off + 5, none⟩)) : KidsAt G w (x :: r) (some ⟨g, off, none⟩) := by
 cases hE with
 | mk ho hl hk => exact .cons hg c0 c1 c2 c3 c4 ho hl hk hr
theorem Kr1.kids {w : World} {eb B : Nat} {lv : Value} {x : Xp} (h : Kr1 w eb B lv x) : ∃ g cap', lv = .slice (some ⟨g, 0, none⟩) 1 cap' ∧ KidsAt (fun b => B ≤ b ∧ b < w.heap.size) w [x] (some ⟨g, 0, none⟩) := by
 obtain ⟨g, cap', k, n, s, o, ma, m, cap, rfl, hown, hge, hE⟩ := h.kid
 have hg : B ≤ g ∧ g < w.heap.size := own_lt hown rfl
 refine ⟨g, cap', rfl, kid_of (hE.mono fun b hb => ⟨hb.1, hb.2.1⟩) ⟨hg.1, hg.2⟩ ?_ ?_ ?_ ?_ ?_ .nil⟩
 ·exact hown.cellAt 0 (by decide)
 ·exact hown.cellAt 1 (by decide)
 ·exact hown.cellAt 2 (by decide)
 ·exact hown.cellAt 3 (by decide)
 ·exact hown.cellAt 4 (by decide)
theorem Kr2.kids {w : World} {eb B : Nat} {lv : Value} {x y : Xp} (h : Kr2 w eb B lv x y) : ∃ g cap', lv = .slice (some ⟨g, 0, none⟩) 2 cap' ∧ KidsAt (fun b => B ≤ b ∧ b < w.heap.size) w [x, y] (some ⟨g, 0, none⟩) := by
 obtain ⟨g, cap', k, n, s, o, ma, m, cap, k2, n2, s2, o2, ma2, m2, cap2, rfl, hown, hge, hE, hE2⟩ := h.kid
 have hg : B ≤ g ∧ g < w.heap.size := own_lt hown rfl
 refine ⟨g, cap', rfl, kid_of (hE.mono fun b hb => ⟨hb.1, hb.2.1⟩) ⟨hg.1, hg.2⟩ ?_ ?_ ?_ ?_ ?_ (kid_of (hE2.mono fun b hb => ⟨hb.1, hb.2.1⟩) ⟨hg.1, hg.2⟩ ?_ ?_ ?_ ?_ ?_ .nil)⟩
 ·exact hown.cellAt 0 (by decide)
 ·exact hown.cellAt 1 (by decide)
 ·exact hown.cellAt 2 (by decide)
 ·exact hown.cellAt 3 (by decide)
 ·exact hown.cellAt 4 (by decide)
 ·exact hown.cellAt 5 (by decide)
 ·exact hown.cellAt 6 (by decide)
 ·exact hown.cellAt 7 (by decide)
 ·exact hown.cellAt 8 (by decide)
 ·exact hown.cellAt 9 (by decide)
def KdE (w : World) (rb eb : Nat) (v : Value) (T : List (Tk × Int)) (B : Nat) (c q : Int) (e : Ending) (w' : World) : Prop :=
 e = .returned (.int .i64 c) ∧ (∃ d', IsRd w' rb v T q d') ∧ Only (fun j => j = rb ∨ j = eb ∨ B ≤ j) w w'
def Kd1 (w : World) (rb eb : Nat) (v : Value) (T : List (Tk × Int)) (B : Nat) (d : Int) (c0 c1 c2 c3 : Value) (x : Xp) (q : Int) (e : Ending) (w' : World) : Prop :=
 e = .returned (.int .i64 0) ∧ IsRd w' rb v T q d ∧ Only (fun j => j = rb ∨ j = eb ∨ B ≤ j) w w' ∧ ∃ lv', Bx w' eb rb (ob v T) c0 c1 c2 c3 lv' ∧ Kr1 w' eb B lv' x
def Kd2 (w : World) (rb eb : Nat) (v : Value) (T : List (Tk × Int)) (B : Nat) (d : Int) (c0 c1 c2 c3 : Value) (x y : Xp) (q : Int) (e : Ending) (w' : World) : Prop :=
 e = .returned (.int .i64 0) ∧ IsRd w' rb v T q d ∧ Only (fun j => j = rb ∨ j = eb ∨ B ≤ j) w w' ∧ ∃ lv', Bx w' eb rb (ob v T) c0 c1 c2 c3 lv' ∧ Kr2 w' eb B lv' x y
theorem tell_any : ∀ d, TellIH d := by
 intro d
 induction d with
 | zero => intro x v l T B w h; simp [mayB] at h
 | succ d ih =>
  intro x v l T B w hm hE ho hB hl hES hgB
  cases hE with
  | @mk k n s o kids ma cap h256 hkl hk =>
   rw [mayB, Bool.and_eq_true] at hm
   obtain ⟨hf, ha⟩ := hm
   rw [Xp.nodes] at hl
   rcases fit_k hf with rfl | rfl | rfl | rfl | rfl
   ·obtain ⟨rfl, rfl, hm0⟩ := fit1 hf
    obtain rfl : kids = [] := List.length_eq_zero_iff.1 hm0
    exact tell_num n ma cap B l T w ho hB (by omega)
   ·obtain ⟨rfl, hn, rfl, hm0⟩ := fit2 hf
    obtain rfl : kids = [] := List.length_eq_zero_iff.1 hm0
    exact tell_var s ma cap B l T w ho hB (by omega)
   ·obtain ⟨rfl, rfl, hoo, hm0⟩ := fit3 hf
    obtain ⟨a, b, rfl⟩ : ∃ a b, kids = [a, b] := by
     match kids, hm0 with
     | [a, b], _ => exact ⟨a, b, rfl⟩
    simp only [List.all_cons, List.all_nil, Bool.and_true, Bool.and_eq_true] at ha
    obtain ⟨blk, off, rfl⟩ := kids_some hk (by simp)
    obtain ⟨m0, c0, k0⟩ := kidIn hk 0 (by simp)
    obtain ⟨m1, c1, k1⟩ := kidIn hk 1 (by simp)
    simp only [Nat.zero_mul, Nat.add_zero, Nat.one_mul, List.getElem_cons_zero, List.getElem_cons_succ] at k0 k1
    simp only [nodesL] at hl
    exact tell_3 d ih a b ha.1 ha.2 o h256 blk off cap m0 c0 m1 c1 B l T w ho hB k0 k1 (by omega) hES hgB
   ·obtain ⟨rfl, hn, rfl, hm0⟩ := fit4 hf
    obtain rfl : kids = [] := List.length_eq_zero_iff.1 hm0
    exact tell_4 s ma cap B l T w ho hB (by omega)
   ·obtain ⟨rfl, hn, rfl, hm0⟩ := fit5 hf
    obtain ⟨a, rfl⟩ : ∃ a, kids = [a] := by
     match kids, hm0 with
     | [a], _ => exact ⟨a, rfl⟩
    simp only [List.all_cons, List.all_nil, Bool.and_true] at ha
    obtain ⟨blk, off, rfl⟩ := kids_some hk (by simp)
    obtain ⟨m0, c0, k0⟩ := kidIn hk 0 (by simp)
    simp only [Nat.zero_mul, Nat.add_zero, List.getElem_cons_zero] at k0
    simp only [nodesL] at hl
    exact tell_5 d ih a ha s blk off cap m0 c0 B l T w ho hB k0 (by omega) hES hgB
def IsB (w : World) (v : Value) (e : Xp) : Prop := IsE (fun b => b < w.heap.size) w v e
theorem IsB.of {w w' : World} {v : Value} {e : Xp} (h : IsB w v e) (hb : Below w.heap.size w w') : IsB w' v e := (h.mono (fun b hb' => Nat.lt_of_lt_of_le hb' hb.size)).of hb
theorem es_lt {w : World} (h : ESignsOk w) : 9 < w.heap.size := World.block_lt_of_cell? w _ (h 0 (by omega))
theorem Tell_yes (e : Xp) (v : Value) (w : World) (hE : IsB w v e) (hT : Tb w) (hm : mayB 40 e = true) (hn : e.nodes ≤ 100000) :
 Calls Tryz.prog 150 #[v] w fun r w' => (∃ l, r = .returned (.tuple #[l, .int .i64 0]) ∧ w'.ownsRow w.heap.size 95 4 l (zs (tellF 40 e)).length (cellsZ (zs (tellF 40 e)))) ∧ Below w.heap.size w w' := by
 have hC : ∀ o, Calls Tryz.prog 129 #[v] (w.alloc o) fun r w' => r = .returned (.int .i64 0) ∧ Below (w.alloc o).heap.size (w.alloc o) w' := fun o => by
  have := check_any _ e v (w.alloc o) (hE.of (aB (Below.refl _ _) _)) (hT.alloc _)
  rw [hm] at this
  exact this
 have hL : ∀ w1, Below w.heap.size w w1 → Calls Tryz.prog 165 #[.slice none 0 0, v] w1 fun r w' => ∃ l', r = .returned l' ∧ Tl w1.heap.size w1 w' (.slice none 0 0) l' (zs (tellF 40 e)) := fun w1 hb =>
  tell_any 40 e v (.slice none 0 0) [] w1.heap.size w1 hm (hE.of hb) (World.ownsRow_nil _ _ _ _) (Nat.le_refl _) (by simp only [List.length_nil]; omega) (hT.of hb).esg (es_lt (hT.of hb).esg)
 cases hE with
 | @mk k n s o kids ma cap h256 hkl hk =>
  clear hk
  go_enter Tryz.func150, Tryz.ntmps150
  go_wp2_with (first | (go_at_call 129; ((with_reducible refine (hC _).mono ?_); (rintro r w1 ⟨rfl, hb⟩); obtain ⟨hc, hf⟩ := bcell hb; have hz := hz1 hb; have hB1 : Below w.heap.size w w1 := tr (aB (Below.refl _ _) _) hb)) | (go_at_call 165; ((with_reducible refine (hL _ hB1).mono ?_); (rintro r w2 ⟨l2, rfl, hl2⟩))))
  go_ret2
  have hB2 : Below w.heap.size w w2 := tr hB1 (hl2.only.below (fun j hj => by cases hj) (Nat.le_refl _))
  exact ⟨⟨_, rfl, own_base hB1.size hl2.own⟩, hB2⟩
def placeZ (T : List (Tk × Int)) (p : Int) : Int := if p < 0 then 0 else (T.getD (min p.toNat (T.length - 1)) (⟨0, [], 0⟩, 0)).2
theorem rowG_fiv {a0 a1 a2 a3 a4 : Value} (c0 c1 c2 c3 c4 : Value) {w : World} {k : Nat} (h : rowG #[a0, a1, a2, a3, a4] w k) :
 rowG #[c0, c1, c2, c3, c4] (((((w.setCell ⟨k, 0, none⟩ c0).setCell ⟨k, 1, none⟩ c1).setCell ⟨k, 2, none⟩ c2).setCell ⟨k, 3, none⟩ c3).setCell ⟨k, 4, none⟩ c4) k :=
 row5_set 4 (by omega) c4 (row5_set 3 (by omega) c3 (row5_set 2 (by omega) c2 (row5_set 1 (by omega) c1 (row5_set 0 (by omega) c0 h))))
theorem only_fiv (c0 c1 c2 c3 c4 : Value) (w : World) (k : Nat) : Only (fun j => j = k) w (((((w.setCell ⟨k, 0, none⟩ c0).setCell ⟨k, 1, none⟩ c1).setCell ⟨k, 2, none⟩ c2).setCell ⟨k, 3, none⟩ c3).setCell ⟨k, 4, none⟩ c4) :=
 ((((only_one w k 0 c0).trans (only_one _ k 1 c1)).trans (only_one _ k 2 c2)).trans (only_one _ k 3 c3)).trans (only_one _ k 4 c4)
def agX (e : Xp) (ma : Option Addr) (cap : Nat) : Value := .agg #[.int .u8 (e.k : Int), .int .u64 (e.n : Int), .string (str e.s), .int .u8 (e.o : Int), .slice ma e.l.length cap]
def CopyP (w : World) (e : Xp) (r : Ending) (w' : World) : Prop := (∃ ma cap, r = .returned (agX e ma cap) ∧ IsE (fun b => w.heap.size ≤ b ∧ b < w'.heap.size) w' (agX e ma cap) e) ∧ Below w.heap.size w w'
theorem kx_append {g H : Nat} {w w5 : World} {lv : Value} (hg : w.grownBy w5 lv.ownBlock) (hat : lv.ownBlock = some g ∨ g = H) (hH : w.heap.size = H) {B : Nat} (L : List Kx)
 (h : ∀ K ∈ L, K.is (fun b => B ≤ b ∧ b < w.heap.size ∧ ¬ lv.ownBlock = some b) w) (n cap : Nat) :
 ∀ K ∈ L, K.is (fun b => B ≤ b ∧ b < w5.heap.size ∧ ¬ (Value.slice (some ⟨g, 0, none⟩) n cap).ownBlock = some b) w5 := by
 intro K hK
 have ho := only_grown hg
 refine ((h K hK).only ho (fun b hb e => hb.2.2 e.symm)).mono (fun b hb => ⟨hb.1, Nat.lt_of_lt_of_le hb.2.1 ho.size, fun e => ?_⟩)
 simp only [Value.ownBlock, Option.some.injEq] at e
 subst e
 rcases hat with h1 | h1
 ·exact hb.2.2 h1
 ·omega
theorem row_kids {w : World} {B M : Nat} {lv : Value} {L : List Kx} (h : w.ownsRow B 47 5 lv M (kxs L)) (hM : M = L.length) (hK : ∀ K ∈ L, K.is (fun b => B ≤ b ∧ b < w.heap.size ∧ ¬ lv.ownBlock = some b) w) :
 ∃ ma cap, lv = .slice ma M cap ∧ KidsAt (fun b => B ≤ b ∧ b < w.heap.size) w (L.map (·.x)) ma := by
 by_cases h0 : M = 0
 ·obtain rfl : L = [] := List.length_eq_zero_iff.1 (by omega)
  rcases h.2 with ⟨hv, _⟩ | ⟨g, cap, cur, hv, hb, hg, _⟩
  ·exact ⟨none, 0, by rw [hv, h0], .nil⟩
  ·exact ⟨_, _, hv, .nil⟩
 ·obtain ⟨g, cg, rfl, hg1, hg2⟩ := h.form (by omega)
  refine ⟨_, _, rfl, kids_of_row ⟨hg1, hg2⟩ L 0 (fun j u hu => ?_) (fun K hk => (hK K hk).mono (fun b hb => ⟨hb.1, hb.2.1⟩))⟩
  rw [Nat.zero_add]
  obtain ⟨hj, _⟩ := List.getElem?_eq_some_iff.1 hu
  rw [kxs_len] at hj
  exact (h.cellAt j (by omega)).trans hu
end Go.Proofs.YtfbjljcmmbdhkaaGreatDoor
