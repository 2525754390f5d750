/- Contract of tell. -/
import Derived.Test.YtkibkaoffgnmkaaGreatDoorL10
import Derived.Deep.AppendLies
namespace Go.Proofs.YtkibkaoffgnmkaaGreatDoor
set_option linter.unusedVariables false
set_option linter.unusedSimpArgs false
set_option maxRecDepth 100000
set_option maxHeartbeats 200000000
open Go.ChangeShapes Go.WideShapes Go.ChangeAt Go.RowKit
structure Tl (B : Nat) (w w' : World) (l l' : Value) (T' : List (Tk × Int)) : Prop where
 own : w'.ownsRow B 95 4 l' T'.length (cellsZ T')
 only : Only (fun j => l.ownBlock = some j) w w'
 blk : ∀ j, l'.ownBlock = some j → l.ownBlock = some j ∨ w.heap.size ≤ j
theorem Tl.trans {B : Nat} {a b c : World} {l l1 l2 : Value} {T1 T2 : List (Tk × Int)} (h : Tl B a b l l1 T1) (k : Tl B b c l1 l2 T2) : Tl B a c l l2 T2 :=
 ⟨k.own, h.only.old k.only h.blk, fun j hj => by
  rcases k.blk j hj with h1 | h1
  ·exact h.blk j h1
  ·exact .inr (Nat.le_trans h.only.size h1)⟩
theorem Tl.pre {B : Nat} {a b c : World} {l l2 : Value} {T2 : List (Tk × Int)} (h : Below a.heap.size a b) (k : Tl B b c l l2 T2) : Tl B a c l l2 T2 :=
 ⟨k.own, (only_below h).trans k.only, fun j hj => by
  rcases k.blk j hj with h1 | h1
  ·exact .inl h1
  ·exact .inr (Nat.le_trans h.size h1)⟩
theorem Tl.post {B : Nat} {a b c : World} {l l2 : Value} {T2 : List (Tk × Int)} (k : Tl B a b l l2 T2) (h : Below b.heap.size b c) : Tl B a c l l2 T2 :=
 ⟨own_of k.own h, k.only.trans (only_below h), k.blk⟩
theorem tl_append {B n m g cap H : Nat} {w w5 : World} {l : Value} {T N : List (Tk × Int)} (hown : w5.ownsRow B 95 4 (.slice (some ⟨g, 0, none⟩) (n + m) cap) (n + m) (cellsZ T ++ cellsZ N)) (hn : n = T.length) (hm : m = N.length)
  (hg : w.grownBy w5 l.ownBlock) (hat : l.ownBlock = some g ∨ g = H) (hH : w.heap.size = H) : Tl B w w5 l (.slice (some ⟨g, 0, none⟩) (n + m) cap) (T ++ N) := by
 subst hn hm hH
 refine ⟨by rw [List.length_append, cellsZ_app]; exact hown, (only_grown hg).mono fun j hj => hj.symm, fun j hj => ?_⟩
 simp only [Value.ownBlock, Option.some.injEq] at hj
 subst hj
 rcases hat with h | h
 ·exact .inl h
 ·exact .inr (Nat.le_of_eq h.symm)
def zs (T : List Tk) : List (Tk × Int) := T.map fun t => (t, 0)
theorem zs_len (T : List Tk) : (zs T).length = T.length := by simp [zs]
theorem zs_app (a b : List Tk) : zs (a ++ b) = zs a ++ zs b := by simp [zs]
def tkC (k : Int) (s : ByteArray) (n : Int) : List Value := [.int .u8 k, .string s, .int .u64 n, .int .i64 0]
theorem tell_num (n : Nat) (ma : Option Addr) (cap : Nat) (B : Nat) (l : Value) (T : List (Tk × Int)) (w : World) (ho : w.ownsRow B 95 4 l T.length (cellsZ T)) (hB : B ≤ w.heap.size) (hl : T.length ≤ 1000000) :
  Calls Tryz.prog 165 #[l, .agg #[.int .u8 1, .int .u64 (n : Int), .string ⟨#[]⟩, .int .u8 0, .slice ma 0 cap]] w fun r w' => ∃ l', r = .returned l' ∧ Tl B w w' l l' (T ++ zs [⟨3, [], n⟩]) := by
 obtain ⟨i0, hi, hz0, hz1, hz2⟩ := info_parts infoT
 obtain ⟨M, hM⟩ : ∃ M, M = T.length := ⟨_, rfl⟩
 rw [← hM] at ho hl
 have HM := Lib.hid hM
 clear hM
 go_enter Tryz.func165, Tryz.ntmps165
 go_wp2_with (first | (go_at_call 184; ((with_reducible refine (number_any n _).mono ?_); (rintro e w1 ⟨rfl, hb⟩); have ho1 := own_of (ho.alloc _) hb; have hB1 : Below w.heap.size w w1 := tr (aB (Below.refl _ _) _) hb)) | (at_builtin; refine wpList_append_lies _ rfl _ _ 62 rfl B 95 i0 _ 4 40 Tryz.underlying62 hi hz0 hz1 hz2 rfl (by decide) l M (cellsZ T) rfl (ho1.alloc _) ⟨w1.heap.size, 0, none⟩ 1 1 (cellsZ (zs [⟨3, [], n⟩])) rfl rfl ?cN ?c0 (by decide) ?c1 ?c2 ?c3 _ rfl ?_))
 case cN => exact news_ok (cellsZ (zs [⟨3, [], n⟩])) 95 w1
 case c0 => exact cellsZ_one _
 case c1 => unfold maxLen; omega
 case c2 => omega
 case c3 => have h1 := hB1.size; simp; omega
 intro g cap' w5 hown hgrow hat hlt
 go_wp2
 go_ret
 exact ⟨_, rfl, (tl_append hown HM.out rfl hgrow hat (by simp)).pre (aB hB1 _)⟩
theorem signOf_es (o : Nat) (ho : o < 256) (w : World) (hT : ESignsOk w) : Calls Tryz.prog 187 #[.int .u8 (o : Int)] w fun e w' => e = .returned (.string (str (opS o))) ∧ w' = w := by
 have hw : IntKind.i64.wrap (o : Int) = (o : Int) := by rw [IntKind.wrap_i64]; omega
 go_enter Tryz.func187, Tryz.ntmps187
 by_cases h : o < 15
 ·have c0 := hT o h
  have hb := World.block_lt_of_cell? w _ c0
  go_wp2
  go_ret
  exact ⟨rfl, rfl⟩
 ·have e : opS o = [] := opS_big (by omega)
  rw [e]
  go_wp2
  go_ret
  exact ⟨rfl, rfl⟩
theorem es_only {S : Nat → Prop} {w w' : World} (h : ESignsOk w) (ho : Only S w w') (hn : ¬ S 9) : ESignsOk w' := fun j hj => ho.cell hn (h j hj)
theorem own_new {w : World} {B n : Nat} {e : TypeId} {size : Nat} {l : Value} {xs : List Value} {c : Nat} (h : w.ownsRow B e size l n xs) (hc : w.heap.size ≤ c ∨ c < B) : l.ownBlock ≠ some c := fun e => by
 have := own_lt h e
 omega
theorem Tl.apart {B : Nat} {a b : World} {l l' : Value} {T : List (Tk × Int)} (h : Tl B a b l l' T) {c : Nat} (hc : c < a.heap.size) (hn : l.ownBlock ≠ some c) : l'.ownBlock ≠ some c := fun e => by
 rcases h.blk c e with h1 | h1
 ·exact hn h1
 ·omega
def TellIH (d : Nat) : Prop := ∀ (x : Xp) (v l : Value) (T : List (Tk × Int)) (B : Nat) (w : World), mayB d x = true → IsE (fun b => b < B) w v x → w.ownsRow B 95 4 l T.length (cellsZ T) → B ≤ w.heap.size → T.length + 5 * x.nodes ≤ 1000000 → ESignsOk w → 9 < B →
  Calls Tryz.prog 165 #[l, v] w fun r w' => ∃ l', r = .returned l' ∧ Tl B w w' l l' (T ++ zs (tellF d x))
theorem tell_len : ∀ (d : Nat) (x : Xp), mayB d x = true → (tellF d x).length ≤ 5 * x.nodes := by
 intro d
 induction d with
 | zero => intro x h; simp [mayB] at h
 | succ d ih =>
  intro x h
  obtain ⟨k, n, s, o, l⟩ := x
  rw [mayB, Bool.and_eq_true] at h
  obtain ⟨hf, hl⟩ := h
  have hk := fit_k hf
  rw [Xp.nodes]
  rcases hk with rfl | rfl | rfl | rfl | rfl
  ·simp [tellF]; omega
  ·simp [tellF]; omega
  ·obtain ⟨rfl, rfl, ho, hm⟩ := fit3 hf
   match l, hm with
   | [a, b], _ =>
    simp only [List.all_cons, List.all_nil, Bool.and_true, Bool.and_eq_true] at hl
    have ia := ih a hl.1
    have ib := ih b hl.2
    rw [show tellF (d + 1) (.mk 3 0 [] o [a, b]) = sg [40] :: (tellF d a ++ sg (opS o) :: (tellF d b ++ [sg [41]])) from rfl]
    simp only [nodesL, List.length_cons, List.length_append, List.length_nil]
    omega
  ·simp [tellF]; omega
  ·obtain ⟨rfl, hn, rfl, hm⟩ := fit5 hf
   match l, hm with
   | [a], _ =>
    simp only [List.all_cons, List.all_nil, Bool.and_true] at hl
    have ia := ih a hl
    rw [show tellF (d + 1) (.mk 5 0 s 0 [a]) = nmT s :: sg [91] :: (tellF d a ++ [sg [93]]) from rfl]
    simp only [nodesL, List.length_cons, List.length_append, List.length_nil]
    omega
theorem tell_var (s : List UInt8) (ma : Option Addr) (cap : Nat) (B : Nat) (l : Value) (T : List (Tk × Int)) (w : World) (ho : w.ownsRow B 95 4 l T.length (cellsZ T)) (hB : B ≤ w.heap.size) (hl : T.length ≤ 1000000) :
  Calls Tryz.prog 165 #[l, .agg #[.int .u8 2, .int .u64 0, .string (str s), .int .u8 0, .slice ma 0 cap]] w fun r w' => ∃ l', r = .returned l' ∧ Tl B w w' l l' (T ++ zs [nmT s]) := by
 obtain ⟨i0, hi, hz0, hz1, hz2⟩ := info_parts infoT
 obtain ⟨M, hM⟩ : ∃ M, M = T.length := ⟨_, rfl⟩
 rw [← hM] at ho hl
 have HM := Lib.hid hM
 clear hM
 go_enter Tryz.func165, Tryz.ntmps165
 go_wp2_with (first | (go_at_call 185; ((with_reducible refine (name_any (str s) _).mono ?_); (rintro e w1 ⟨rfl, hb⟩); have ho1 := own_of (ho.alloc _) hb; have hB1 : Below w.heap.size w w1 := tr (aB (Below.refl _ _) _) hb)) | (at_builtin; refine wpList_append_lies _ rfl _ _ 62 rfl B 95 i0 _ 4 40 Tryz.underlying62 hi hz0 hz1 hz2 rfl (by decide) l M (cellsZ T) rfl (ho1.alloc _) ⟨w1.heap.size, 0, none⟩ 1 1 (cellsZ (zs [nmT s])) rfl rfl ?cN ?c0 (by decide) ?c1 ?c2 ?c3 _ rfl ?_))
 case cN => exact news_ok (cellsZ (zs [nmT s])) 95 w1
 case c0 => exact cellsZ_one _
 case c1 => unfold maxLen; omega
 case c2 => omega
 case c3 => have h1 := hB1.size; simp; omega
 intro g cap' w5 hown hgrow hat hlt
 go_wp2
 go_ret
 exact ⟨_, rfl, (tl_append hown HM.out rfl hgrow hat (by simp)).pre (aB hB1 _)⟩
theorem tl_fin {B : Nat} {w W c w5 : World} {l l' : Value} {T : List (Tk × Int)} (hBw : Below w.heap.size w W) (hF : Only (fun j => l.ownBlock = some j) W c) (h : Tl B c w5 l l' T) : Tl B w w5 l l' T :=
 ⟨h.own, ((only_below hBw).trans hF).trans h.only, fun j hj => by
  rcases h.blk j hj with h1 | h1
  ·exact .inl h1
  ·exact .inr (Nat.le_trans hBw.size (Nat.le_trans hF.size h1))⟩
theorem tell_4 (s : List UInt8) (ma : Option Addr) (cap : Nat) (B : Nat) (l : Value) (T : List (Tk × Int)) (w : World) (ho : w.ownsRow B 95 4 l T.length (cellsZ T)) (hB : B ≤ w.heap.size) (hl : T.length ≤ 1000000) :
  Calls Tryz.prog 165 #[l, .agg #[.int .u8 4, .int .u64 0, .string (str s), .int .u8 0, .slice ma 0 cap]] w fun r w' => ∃ l', r = .returned l' ∧ Tl B w w' l l' (T ++ zs [sg [35], nmT s]) := by
 obtain ⟨i0, hi, hz0, hz1, hz2⟩ := info_parts infoT
 obtain ⟨M, hM⟩ : ∃ M, M = T.length := ⟨_, rfl⟩
 rw [← hM] at ho hl
 have HM := Lib.hid hM
 clear hM
 go_enter Tryz.func165, Tryz.ntmps165
 go_wp2
 obtain ⟨W, hW⟩ : ∃ W, w.alloc (.cells #[.int .u8 4, .int .u64 0, .string (str s), .int .u8 0, .slice ma 0 cap] 47) = W := ⟨_, rfl⟩
 have hBw : Below w.heap.size w W := by rw [← hW]; exact aB (Below.refl _ _) _
 have hn0 : l.ownBlock ≠ some w.heap.size := own_new ho (.inl (Nat.le_refl _))
 have hoW : W.drew.ownsRow B 95 4 l M (cellsZ T) := own_only (own_of ho hBw) (od1 (S := fun _ => False)) (fun _ _ h => h)
 have hBW : B ≤ W.heap.size := Nat.le_trans hB hBw.size
 have c2 : W.cell? ⟨w.heap.size, 2, none⟩ = some (.string (str s)) := by rw [← hW]; exact new_cell _ _ _ 2
 rw [hW]
 clear hW
 have hFi : ∀ w', Only (fun j => l.ownBlock = some j) W w' → w'.cell? ⟨w.heap.size, 2, none⟩ = some (.string (str s)) := fun w' h => h.cell hn0 c2
 have hF0 : Only (fun j => l.ownBlock = some j) W W.drew := od1
 refine region_KN (fun w' => Only (fun j => l.ownBlock = some j) W w') (by kernel_rfl) ?_
 have q : Pq [0, 2, 3] := trivial
 iterate 3
  refine tkN q rfl (by kernel_rfl) hF0 fun K hK => ?_
  replace q := q.tl
  apply Exists.intro
  refine ⟨Or.inl ⟨by kernel_rfl, fun w' hf => ?_⟩, ?_⟩
  ·have s2 := hFi _ hf
   go_simp
   try exact rfl
  go_simp
  refine hK _ ?_
  clear hK K
 refine wpAnyK_one (k := 1) (by kernel_rfl) ?_
 refine wpOp_step rfl (fun K hK => ?_)
 go_simp
 go_at_call 186
 with_reducible refine (sign_any _ _).mono ?_
 rintro e v1 ⟨rfl, hb1⟩
 have hF1 := Only.trans hF0 (only_below hb1)
 have ho1 := own_of hoW hb1
 refine hK _ _ ⟨hF1, ?_⟩
 clear hK K
 refine wpAnyK_one (k := 4) (by kernel_rfl) ?_
 refine wpOp_step rfl (fun K hK => ?_)
 go_simp
 go_at_call 185
 with_reducible refine (name_any _ _).mono ?_
 rintro e v2 ⟨rfl, hb2⟩
 have hF2 := Only.trans hF1 (only_below hb2)
 have ho2 := own_of ho1 hb2
 refine hK _ _ ⟨hF2, ?_⟩
 clear hK K
 refine wpAnyK_one (k := 5) (by kernel_rfl) ?_
 refine wpOp_step rfl (fun K hK => ?_)
 go_simp
 have hF3 : Only (fun j => l.ownBlock = some j) W (v2.alloc (.cells (cellsZ (zs [sg [35], nmT s])).toArray 95)) := Only.trans hF2 (only_below (aB (Below.refl _ _) _))
 have ho3 : (v2.alloc (.cells (cellsZ (zs [sg [35], nmT s])).toArray 95)).ownsRow B 95 4 l M (cellsZ T) := World.ownsRow.alloc ho2 _
 refine hK _ _ ⟨hF3, ?_⟩
 clear hK K
 refine wpAnyK_one (k := 6) (by kernel_rfl) ?_
 refine wpOp_step rfl (fun K hK => ?_)
 refine step_append_lies _ rfl (.tmp 25) (.tmp 30) 62 rfl B 95 i0 _ 4 40 Tryz.underlying62 hi hz0 hz1 hz2 rfl (by decide) l M (cellsZ T) rfl ho3 ⟨v2.heap.size, 0, none⟩ 2 2 (cellsZ (zs [sg [35], nmT s])) rfl rfl (news_ok (cellsZ (zs [sg [35], nmT s])) 95 v2) (cellsZ_one _) (by decide) (by unfold maxLen; omega) (by omega) (Nat.le_trans hBW hF3.size) _ rfl ?_
 intro g cap' v4 hown hgrow hat hlt
 have hT4 := tl_append hown HM.out rfl hgrow hat rfl
 have hF4 := Only.trans hF3 hT4.only
 go_simp
 refine hK _ _ ⟨hF4, ?_⟩
 clear hK K
 refine wpAnyK_one (k := 7) (by kernel_rfl) ?_
 refine wpOp_step rfl (fun K hK => ?_)
 go_simp
 refine hK _ _ ⟨hF4, ?_⟩
 clear hK K
 refine wpAnyK_done (by kernel_rfl) ⟨rfl, ?_⟩
 go_wp2
 go_ret
 exact ⟨_, rfl, tl_fin hBw hF3 hT4⟩
structure KidIn (B : Nat) (w : World) (b off : Nat) (x : Xp) (ma : Option Addr) (cap : Nat) : Prop where
 lt : b < B
 c0 : w.cell? ⟨b, off, none⟩ = some (.int .u8 (x.k : Int))
 c1 : w.cell? ⟨b, off + 1, none⟩ = some (.int .u64 (x.n : Int))
 c2 : w.cell? ⟨b, off + 2, none⟩ = some (.string (str x.s))
 c3 : w.cell? ⟨b, off + 3, none⟩ = some (.int .u8 (x.o : Int))
 c4 : w.cell? ⟨b, off + 4, none⟩ = some (.slice ma x.l.length cap)
 is : IsE (fun b => b < B) w (.agg #[.int .u8 (x.k : Int), .int .u64 (x.n : Int), .string (str x.s), .int .u8 (x.o : Int), .slice ma x.l.length cap]) x
theorem KidIn.only {B : Nat} {w w' : World} {b off : Nat} {x : Xp} {ma : Option Addr} {cap : Nat} {S : Nat → Prop} (h : KidIn B w b off x ma cap) (ho : Only S w w') (hs : ∀ c, c < B → ¬ S c) : KidIn B w' b off x ma cap :=
 ⟨h.lt, ho.cell (hs _ h.lt) h.c0, ho.cell (hs _ h.lt) h.c1, ho.cell (hs _ h.lt) h.c2, ho.cell (hs _ h.lt) h.c3, ho.cell (hs _ h.lt) h.c4, h.is.only ho hs⟩
theorem KidIn.lt' {B : Nat} {w : World} {b off : Nat} {x : Xp} {ma : Option Addr} {cap : Nat} (h : KidIn B w b off x ma cap) : b < w.heap.size := World.block_lt_of_cell? w _ h.c0
theorem kidIn {B : Nat} {w : World} {l : List Xp} {b off : Nat} (h : KidsAt (fun b => b < B) w l (some ⟨b, off, none⟩)) (i : Nat) (hi : i < l.length) : ∃ ma cap, KidIn B w b (off + i * 5) l[i] ma cap := by
 have hk := kids_at l b off h i hi
 obtain ⟨ma, cap, c0, c1, c2, c3, c4, he⟩ := hk.isE
 obtain ⟨_, _, hg, _⟩ := hk.kid
 exact ⟨ma, cap, hg, c0, c1, c2, c3, c4, he⟩
theorem row_apart {B n : Nat} {w : World} {e : TypeId} {size : Nat} {l : Value} {xs : List Value} (h : w.ownsRow B e size l n xs) : ∀ c, c < B → ¬ l.ownBlock = some c := fun c hc => own_new h (.inr hc)
theorem tell_5 (d : Nat) (hIH : TellIH d) (x : Xp) (hmx : mayB d x = true) (s : List UInt8) (b off cap : Nat) (ma : Option Addr) (cap0 : Nat) (B : Nat) (l : Value) (T : List (Tk × Int)) (w : World) (ho : w.ownsRow B 95 4 l T.length (cellsZ T)) (hB : B ≤ w.heap.size) (hK : KidIn B w b off x ma cap0) (hl : T.length + 5 * (1 + x.nodes) ≤ 1000000) (hES0 : ESignsOk w) (hgB : 9 < B) :
  Calls Tryz.prog 165 #[l, .agg #[.int .u8 5, .int .u64 0, .string (str s), .int .u8 0, .slice (some ⟨b, off, none⟩) 1 cap]] w fun r w' => ∃ l', r = .returned l' ∧ Tl B w w' l l' (T ++ zs (nmT s :: sg [91] :: (tellF d x ++ [sg [93]]))) := by
 have htl := tell_len d x hmx
 obtain ⟨i0, hi, hz0, hz1, hz2⟩ := info_parts infoT
 obtain ⟨M, hM⟩ : ∃ M, M = T.length := ⟨_, rfl⟩
 rw [← hM] at ho hl
 have HM := Lib.hid hM
 clear hM
 go_enter Tryz.func165, Tryz.ntmps165
 go_wp2
 obtain ⟨W, hW⟩ : ∃ W, w.alloc (.cells #[.int .u8 5, .int .u64 0, .string (str s), .int .u8 0, .slice (some ⟨b, off, none⟩) 1 cap] 47) = W := ⟨_, rfl⟩
 have hBw : Below w.heap.size w W := by rw [← hW]; exact aB (Below.refl _ _) _
 have hoW0 : W.ownsRow B 95 4 l M (cellsZ T) := own_of ho hBw
 have hn0 : ¬ l.ownBlock = some w.heap.size := own_new ho (.inl (Nat.le_refl _))
 have hap := row_apart ho
 have hBW : B ≤ W.heap.size := Nat.le_trans hB hBw.size
 have b2 : W.cell? ⟨w.heap.size, 2, none⟩ = some (.string (str s)) := by rw [← hW]; exact new_cell _ _ _ 2
 have b4 : W.cell? ⟨w.heap.size, 4, none⟩ = some (.slice (some ⟨b, off, none⟩) 1 cap) := by rw [← hW]; exact new_cell _ _ _ 4
 have hzW : w.heap.size < W.heap.size := by rw [← hW]; simp
 rw [hW]
 clear hW
 have hoW : W.drew.ownsRow B 95 4 l M (cellsZ T) := own_only hoW0 (od1 (S := fun _ => False)) (fun _ _ h => h)
 have hKW := hK.only (only_below (S := fun _ => False) hBw) (fun _ _ h => h)
 have hES := es_only hES0 (only_below (S := fun _ => False) hBw) (fun h => h)
 have hFi : ∀ w', Only (fun j => l.ownBlock = some j) W w' → w'.cell? ⟨w.heap.size, 2, none⟩ = some (.string (str s)) ∧ w'.cell? ⟨w.heap.size, 4, none⟩ = some (.slice (some ⟨b, off, none⟩) 1 cap) ∧ w'.cell? ⟨b, off, none⟩ = some (.int .u8 (x.k : Int)) ∧ w'.cell? ⟨b, off + 1, none⟩ = some (.int .u64 (x.n : Int)) ∧ w'.cell? ⟨b, off + 2, none⟩ = some (.string (str x.s)) ∧ w'.cell? ⟨b, off + 3, none⟩ = some (.int .u8 (x.o : Int)) ∧ w'.cell? ⟨b, off + 4, none⟩ = some (.slice ma x.l.length cap0) ∧ b < w'.heap.size :=
  fun w' h => ⟨h.cell hn0 b2, h.cell hn0 b4, (hKW.only h hap).c0, (hKW.only h hap).c1, (hKW.only h hap).c2, (hKW.only h hap).c3, (hKW.only h hap).c4, (hKW.only h hap).lt'⟩
 have hF0 : Only (fun j => l.ownBlock = some j) W W.drew := od1
 refine region_KN (fun w' => Only (fun j => l.ownBlock = some j) W w') (by kernel_rfl) ?_
 have q : Pq [0, 1, 2, 7, 8, 9, 10] := trivial
 iterate 7
  refine tkN q rfl (by kernel_rfl) hF0 fun K hK => ?_
  replace q := q.tl
  apply Exists.intro
  refine ⟨Or.inl ⟨by kernel_rfl, fun w' hf => ?_⟩, ?_⟩
  ·obtain ⟨s2, s4, k0, k1, k2, k3, k4, kl⟩ := hFi _ hf
   go_simp
   try exact rfl
  go_simp
  refine hK _ ?_
  clear hK K
 refine wpAnyK_one (k := 3) (by kernel_rfl) ?_
 refine wpOp_step rfl (fun K hK => ?_)
 go_simp
 go_at_call 185
 with_reducible refine (name_any _ _).mono ?_
 rintro e v1 ⟨rfl, hb1⟩
 have hF1 := Only.trans hF0 (only_below hb1)
 have ho1 := own_of hoW hb1
 refine hK _ _ ⟨hF1, ?_⟩
 clear hK K
 refine wpAnyK_one (k := 4) (by kernel_rfl) ?_
 refine wpOp_step rfl (fun K hK => ?_)
 go_simp
 go_at_call 186
 with_reducible refine (sign_any _ _).mono ?_
 rintro e v2 ⟨rfl, hb2⟩
 have hF2 := Only.trans hF1 (only_below hb2)
 have ho2 := own_of ho1 hb2
 refine hK _ _ ⟨hF2, ?_⟩
 clear hK K
 refine wpAnyK_one (k := 5) (by kernel_rfl) ?_
 refine wpOp_step rfl (fun K hK => ?_)
 go_simp
 have hF3 : Only (fun j => l.ownBlock = some j) W (v2.alloc (.cells (cellsZ (zs [nmT s, sg [91]])).toArray 95)) := Only.trans hF2 (only_below (aB (Below.refl _ _) _))
 have ho3 : (v2.alloc (.cells (cellsZ (zs [nmT s, sg [91]])).toArray 95)).ownsRow B 95 4 l M (cellsZ T) := World.ownsRow.alloc ho2 _
 refine hK _ _ ⟨hF3, ?_⟩
 clear hK K
 refine wpAnyK_one (k := 6) (by kernel_rfl) ?_
 refine wpOp_step rfl (fun K hK => ?_)
 refine step_append_lies _ rfl (.tmp 34) (.tmp 39) 62 rfl B 95 i0 _ 4 40 Tryz.underlying62 hi hz0 hz1 hz2 rfl (by decide) l M (cellsZ T) rfl ho3 ⟨v2.heap.size, 0, none⟩ 2 2 (cellsZ (zs [nmT s, sg [91]])) rfl rfl (news_ok (cellsZ (zs [nmT s, sg [91]])) 95 v2) (cellsZ_one _) (by decide) (by unfold maxLen; omega) (by omega) (Nat.le_trans hBW hF3.size) _ rfl ?_
 intro g cap' v4 hown hgrow hat hlt
 have hT4 := tl_append hown HM.out rfl hgrow hat rfl
 have hF4 := Only.trans hF3 hT4.only
 go_simp
 refine hK _ _ ⟨hF4, ?_⟩
 clear hK K
 refine wpAnyK_one (k := 11) (by kernel_rfl) ?_
 refine wpOp_step rfl (fun K hK => ?_)
 go_simp
 have hIk := hIH x (.agg #[.int .u8 (x.k : Int), .int .u64 (x.n : Int), .string (str x.s), .int .u8 (x.o : Int), .slice ma x.l.length cap0]) _ (T ++ zs [nmT s, sg [91]]) B v4 hmx (hKW.only hF4 hap).is hT4.own (Nat.le_trans hBW hF4.size) (by simp only [List.length_append, zs_len, List.length_cons, List.length_nil, ← HM.out]; omega) (es_only hES hF4 (hap _ hgB)) hgB
 go_at_call 165
 with_reducible refine hIk.mono ?_
 rintro e v5 ⟨l5, rfl, hU5⟩
 have hT5 := Tl.trans hT4 hU5
 have hF5 := Only.trans hF3 hT5.only
 clear hU5 hIk
 refine hK _ _ ⟨hF5, ?_⟩
 clear hK K
 refine wpAnyK_one (k := 12) (by kernel_rfl) ?_
 refine wpOp_step rfl (fun K hK => ?_)
 go_simp
 refine hK _ _ ⟨hF5, ?_⟩
 clear hK K
 refine wpAnyK_done (by kernel_rfl) ⟨rfl, ?_⟩
 clear hFi
 have hz5 := hBw.size
 have hz6 := Only.size hF5
 have hlM := congrArg List.length (rfl : (T ++ zs [nmT s, sg [91]] ++ zs (tellF d x)) = (T ++ zs [nmT s, sg [91]] ++ zs (tellF d x)))
 obtain ⟨T5, hT5e⟩ : ∃ T5, T5 = (T ++ zs [nmT s, sg [91]] ++ zs (tellF d x)) := ⟨_, rfl⟩
 have hlT5 : T5.length ≤ 1000000 := by rw [hT5e]; simp only [List.length_append, zs_len, List.length_cons, List.length_nil, ← HM.out]; omega
 rw [← hT5e] at hT5
 have HT5 := Lib.hid hT5e
 clear hT5e hlM
 obtain ⟨M5, hM5⟩ : ∃ M5, M5 = T5.length := ⟨_, rfl⟩
 have ho5 := hT5.own
 rw [← hM5] at ho5 hlT5
 have HM5 := Lib.hid hM5
 clear hM5
 go_wp2_with (first | (go_at_call 186; ((with_reducible refine (sign_any _ _).mono ?_); (rintro e y1 ⟨rfl, hby⟩); have hoy := own_of ho5 hby)) | (at_builtin; refine wpList_append_lies _ rfl _ _ 62 rfl B 95 i0 _ 4 40 Tryz.underlying62 hi hz0 hz1 hz2 rfl (by decide) l5 M5 (cellsZ T5) rfl (hoy.alloc _) ⟨y1.heap.size, 0, none⟩ 1 1 (cellsZ (zs [sg [93]])) rfl rfl ?cN ?c0 (by decide) ?c1 ?c2 ?c3 _ rfl ?_))
 case cN => exact news_ok (cellsZ (zs [sg [93]])) 95 y1
 case c0 => exact cellsZ_one _
 case c1 => unfold maxLen; omega
 case c2 => omega
 case c3 => have h1 := hby.size; simp; omega
 intro g2 cap2 y5 hown2 hgrow2 hat2 hlt2
 go_wp2
 go_ret
 have hTz := (hT5.post (aB hby _)).trans (tl_append hown2 HM5.out rfl hgrow2 hat2 (by simp))
 rw [HT5.out] at hTz
 refine ⟨_, rfl, ?_⟩
 have hTy := tl_fin hBw hF3 hTz
 rw [show T ++ zs (nmT s :: sg [91] :: (tellF d x ++ [sg [93]])) = (T ++ zs [nmT s, sg [91]] ++ zs (tellF d x)) ++ zs [sg [93]] from by simp [zs]]
 exact hTy
theorem tell_3 (d : Nat) (hIH : TellIH d) (x y : Xp) (hmx : mayB d x = true) (hmy : mayB d y = true) (o : Nat) (ho256 : o < 256) (b off cap : Nat) (ma : Option Addr) (cap0 : Nat) (mb : Option Addr) (cap1 : Nat) (B : Nat) (l : Value) (T : List (Tk × Int)) (w : World) (ho : w.ownsRow B 95 4 l T.length (cellsZ T)) (hB : B ≤ w.heap.size) (hK : KidIn B w b off x ma cap0) (hK1 : KidIn B w b (off + 5) y mb cap1) (hl : T.length + 5 * (1 + (x.nodes + y.nodes)) ≤ 1000000) (hES0 : ESignsOk w) (hgB : 9 < B) :
  Calls Tryz.prog 165 #[l, .agg #[.int .u8 3, .int .u64 0, .string ⟨#[]⟩, .int .u8 (o : Int), .slice (some ⟨b, off, none⟩) 2 cap]] w fun r w' => ∃ l', r = .returned l' ∧ Tl B w w' l l' (T ++ zs (sg [40] :: (tellF d x ++ sg (opS o) :: (tellF d y ++ [sg [41]])))) := by
 have htl := tell_len d x hmx
 have htl1 := tell_len d y hmy
 obtain ⟨i0, hi, hz0, hz1, hz2⟩ := info_parts infoT
 obtain ⟨M, hM⟩ : ∃ M, M = T.length := ⟨_, rfl⟩
 rw [← hM] at ho hl
 have HM := Lib.hid hM
 clear hM
 go_enter Tryz.func165, Tryz.ntmps165
 go_wp2
 obtain ⟨W, hW⟩ : ∃ W, w.alloc (.cells #[.int .u8 3, .int .u64 0, .string ⟨#[]⟩, .int .u8 (o : Int), .slice (some ⟨b, off, none⟩) 2 cap] 47) = W := ⟨_, rfl⟩
 have hBw : Below w.heap.size w W := by rw [← hW]; exact aB (Below.refl _ _) _
 have hoW0 : W.ownsRow B 95 4 l M (cellsZ T) := own_of ho hBw
 have hn0 : ¬ l.ownBlock = some w.heap.size := own_new ho (.inl (Nat.le_refl _))
 have hap := row_apart ho
 have hBW : B ≤ W.heap.size := Nat.le_trans hB hBw.size
 have b3 : W.cell? ⟨w.heap.size, 3, none⟩ = some (.int .u8 (o : Int)) := by rw [← hW]; exact new_cell _ _ _ 3
 have b4 : W.cell? ⟨w.heap.size, 4, none⟩ = some (.slice (some ⟨b, off, none⟩) 2 cap) := by rw [← hW]; exact new_cell _ _ _ 4
 have hzW : w.heap.size < W.heap.size := by rw [← hW]; simp
 rw [hW]
 clear hW
 have hoW : W.drew.ownsRow B 95 4 l M (cellsZ T) := own_only hoW0 (od1 (S := fun _ => False)) (fun _ _ h => h)
 have hKW := hK.only (only_below (S := fun _ => False) hBw) (fun _ _ h => h)
 have hKW1 := hK1.only (only_below (S := fun _ => False) hBw) (fun _ _ h => h)
 have hES := es_only hES0 (only_below (S := fun _ => False) hBw) (fun h => h)
 have hFi : ∀ w', Only (fun j => l.ownBlock = some j) W w' → w'.cell? ⟨w.heap.size, 4, none⟩ = some (.slice (some ⟨b, off, none⟩) 2 cap) ∧ w'.cell? ⟨b, off, none⟩ = some (.int .u8 (x.k : Int)) ∧ w'.cell? ⟨b, off + 1, none⟩ = some (.int .u64 (x.n : Int)) ∧ w'.cell? ⟨b, off + 2, none⟩ = some (.string (str x.s)) ∧ w'.cell? ⟨b, off + 3, none⟩ = some (.int .u8 (x.o : Int)) ∧ w'.cell? ⟨b, off + 4, none⟩ = some (.slice ma x.l.length cap0) ∧ b < w'.heap.size :=
  fun w' h => ⟨h.cell hn0 b4, (hKW.only h hap).c0, (hKW.only h hap).c1, (hKW.only h hap).c2, (hKW.only h hap).c3, (hKW.only h hap).c4, (hKW.only h hap).lt'⟩
 have hF0 : Only (fun j => l.ownBlock = some j) W W.drew := od1
 refine region_KN (fun w' => Only (fun j => l.ownBlock = some j) W w') (by kernel_rfl) ?_
 have q : Pq [0, 4, 5, 6, 7] := trivial
 iterate 5
  refine tkN q rfl (by kernel_rfl) hF0 fun K hK => ?_
  replace q := q.tl
  apply Exists.intro
  refine ⟨Or.inl ⟨by kernel_rfl, fun w' hf => ?_⟩, ?_⟩
  ·obtain ⟨s4, k0, k1, k2, k3, k4, kl⟩ := hFi _ hf
   go_simp
   try exact rfl
  go_simp
  refine hK _ ?_
  clear hK K
 refine wpAnyK_one (k := 1) (by kernel_rfl) ?_
 refine wpOp_step rfl (fun K hK => ?_)
 go_simp
 go_at_call 186
 with_reducible refine (sign_any _ _).mono ?_
 rintro e v1 ⟨rfl, hb1⟩
 have hF1 := Only.trans hF0 (only_below hb1)
 have ho1 := own_of hoW hb1
 refine hK _ _ ⟨hF1, ?_⟩
 clear hK K
 refine wpAnyK_one (k := 2) (by kernel_rfl) ?_
 refine wpOp_step rfl (fun K hK => ?_)
 go_simp
 have hF2 : Only (fun j => l.ownBlock = some j) W (v1.alloc (.cells (cellsZ (zs [sg [40]])).toArray 95)) := Only.trans hF1 (only_below (aB (Below.refl _ _) _))
 have ho2 : (v1.alloc (.cells (cellsZ (zs [sg [40]])).toArray 95)).ownsRow B 95 4 l M (cellsZ T) := World.ownsRow.alloc ho1 _
 refine hK _ _ ⟨hF2, ?_⟩
 clear hK K
 refine wpAnyK_one (k := 3) (by kernel_rfl) ?_
 refine wpOp_step rfl (fun K hK => ?_)
 refine step_append_lies _ rfl (.tmp 50) (.tmp 52) 62 rfl B 95 i0 _ 4 40 Tryz.underlying62 hi hz0 hz1 hz2 rfl (by decide) l M (cellsZ T) rfl ho2 ⟨v1.heap.size, 0, none⟩ 1 1 (cellsZ (zs [sg [40]])) rfl rfl (news_ok (cellsZ (zs [sg [40]])) 95 v1) (cellsZ_one _) (by decide) (by unfold maxLen; omega) (by omega) (Nat.le_trans hBW hF2.size) _ rfl ?_
 intro g cap' v3 hown hgrow hat hlt
 have hT3 := tl_append hown HM.out rfl hgrow hat rfl
 have hF3 := Only.trans hF2 hT3.only
 go_simp
 refine hK _ _ ⟨hF3, ?_⟩
 clear hK K
 refine wpAnyK_one (k := 8) (by kernel_rfl) ?_
 refine wpOp_step rfl (fun K hK => ?_)
 go_simp
 have hIk := hIH x (.agg #[.int .u8 (x.k : Int), .int .u64 (x.n : Int), .string (str x.s), .int .u8 (x.o : Int), .slice ma x.l.length cap0]) _ (T ++ zs [sg [40]]) B v3 hmx (hKW.only hF3 hap).is hT3.own (Nat.le_trans hBW hF3.size) (by simp only [List.length_append, zs_len, List.length_cons, List.length_nil, ← HM.out]; omega) (es_only hES hF3 (hap _ hgB)) hgB
 go_at_call 165
 with_reducible refine hIk.mono ?_
 rintro e v4 ⟨l4, rfl, hU4⟩
 have hT4 := Tl.trans hT3 hU4
 have hF4 := Only.trans hF2 hT4.only
 clear hU4 hIk
 refine hK _ _ ⟨hF4, ?_⟩
 clear hK K
 refine wpAnyK_one (k := 9) (by kernel_rfl) ?_
 refine wpOp_step rfl (fun K hK => ?_)
 go_simp
 refine hK _ _ ⟨hF4, ?_⟩
 clear hK K
 refine wpAnyK_done (by kernel_rfl) ⟨rfl, ?_⟩
 go_wp2
 clear hFi
 have hFx := hF4
 have hTx := tl_fin (Below.refl _ _) hF2 hT4
 have hap2 : ∀ c, c < B → ¬ l4.ownBlock = some c := row_apart hTx.own
 have hn02 : ¬ l4.ownBlock = some w.heap.size := hTx.apart hzW hn0
 have hlX : (T ++ zs [sg [40]] ++ zs (tellF d x)).length + 5 * y.nodes + 4 ≤ 1000000 := by simp only [List.length_append, zs_len, List.length_cons, List.length_nil, ← HM.out]; omega
 obtain ⟨T2, hT2e⟩ : ∃ T2, T2 = (T ++ zs [sg [40]] ++ zs (tellF d x)) := ⟨_, rfl⟩
 rw [← hT2e] at hTx hlX
 have HT2 := Lib.hid hT2e
 clear hT2e
 obtain ⟨M2, hM2⟩ : ∃ M2, M2 = T2.length := ⟨_, rfl⟩
 have hoX := hTx.own
 rw [← hM2] at hoX hlX
 have HM2 := Lib.hid hM2
 clear hM2 hi hz0 hz1 hz2
 obtain ⟨i0, hi, hz0, hz1, hz2⟩ := info_parts infoT
 obtain ⟨l6, hl6⟩ : ∃ l6, l6 = l4 := ⟨_, rfl⟩
 have c3 := hFx.cell hn0 b3
 have c4 := hFx.cell hn0 b4
 have hKX := hKW1.only hFx hap
 have hEX := es_only hES hFx (hap _ hgB)
 have hBX : B ≤ v4.heap.size := Nat.le_trans hBW hFx.size
 have hFi : ∀ w', Only (fun j => l4.ownBlock = some j) v4 w' → w'.cell? ⟨w.heap.size, 3, none⟩ = some (.int .u8 (o : Int)) ∧ w'.cell? ⟨w.heap.size, 4, none⟩ = some (.slice (some ⟨b, off, none⟩) 2 cap) ∧ w'.cell? ⟨b, off + 5, none⟩ = some (.int .u8 (y.k : Int)) ∧ w'.cell? ⟨b, off + 5 + 1, none⟩ = some (.int .u64 (y.n : Int)) ∧ w'.cell? ⟨b, off + 5 + 2, none⟩ = some (.string (str y.s)) ∧ w'.cell? ⟨b, off + 5 + 3, none⟩ = some (.int .u8 (y.o : Int)) ∧ w'.cell? ⟨b, off + 5 + 4, none⟩ = some (.slice mb y.l.length cap1) ∧ b < w'.heap.size := fun w' h => ⟨h.cell hn02 c3, h.cell hn02 c4, (hKX.only h hap2).c0, (hKX.only h hap2).c1, (hKX.only h hap2).c2, (hKX.only h hap2).c3, (hKX.only h hap2).c4, (hKX.only h hap2).lt'⟩
 have hG0 : Only (fun j => l4.ownBlock = some j) v4 v4.drew := od1
 have hoX1 : v4.drew.ownsRow B 95 4 l4 M2 (cellsZ T2) := own_only hoX (od1 (S := fun _ => False)) (fun _ _ h => h)
 have hz9 := hFx.size
 refine region_KN (fun w' => Only (fun j => l4.ownBlock = some j) v4 w') (by kernel_rfl) ?_
 have q : Pq [0, 1, 2, 7, 8, 9, 10] := trivial
 iterate 7
  refine tkN q rfl (by kernel_rfl) hG0 fun K hK => ?_
  replace q := q.tl
  apply Exists.intro
  refine ⟨Or.inl ⟨by kernel_rfl, fun w' hf => ?_⟩, ?_⟩
  ·obtain ⟨s3, s4, k0, k1, k2, k3, k4, kl⟩ := hFi _ hf
   go_simp
   try exact rfl
  go_simp
  refine hK _ ?_
  clear hK K
 refine wpAnyK_one (k := 3) (by kernel_rfl) ?_
 refine wpOp_step rfl (fun K hK => ?_)
 go_simp
 go_at_call 187
 with_reducible refine (signOf_es o ho256 _ (es_only hEX hG0 (hap2 _ hgB))).mono ?_
 rintro e v21 ⟨rfl, rfl⟩
 refine hK _ _ ⟨hG0, ?_⟩
 clear hK K
 refine wpAnyK_one (k := 4) (by kernel_rfl) ?_
 refine wpOp_step rfl (fun K hK => ?_)
 go_simp
 go_at_call 186
 with_reducible refine (sign_any _ _).mono ?_
 rintro e v22 ⟨rfl, hb22⟩
 have hF22 := Only.trans hG0 (only_below hb22)
 have ho22 := own_of hoX1 hb22
 refine hK _ _ ⟨hF22, ?_⟩
 clear hK K
 refine wpAnyK_one (k := 5) (by kernel_rfl) ?_
 refine wpOp_step rfl (fun K hK => ?_)
 go_simp
 have hF23 : Only (fun j => l4.ownBlock = some j) v4 (v22.alloc (.cells (cellsZ (zs [sg (opS o)])).toArray 95)) := Only.trans hF22 (only_below (aB (Below.refl _ _) _))
 have ho23 : (v22.alloc (.cells (cellsZ (zs [sg (opS o)])).toArray 95)).ownsRow B 95 4 l4 M2 (cellsZ T2) := World.ownsRow.alloc ho22 _
 refine hK _ _ ⟨hF23, ?_⟩
 clear hK K
 refine wpAnyK_one (k := 6) (by kernel_rfl) ?_
 refine wpOp_step rfl (fun K hK => ?_)
 refine step_append_lies _ rfl (.tmp 59) (.tmp 64) 62 rfl B 95 i0 _ 4 40 Tryz.underlying62 hi hz0 hz1 hz2 rfl (by decide) l4 M2 (cellsZ T2) rfl ho23 ⟨v22.heap.size, 0, none⟩ 1 1 (cellsZ (zs [sg (opS o)])) rfl rfl (news_ok (cellsZ (zs [sg (opS o)])) 95 v22) (cellsZ_one _) (by decide) (by unfold maxLen; omega) (by omega) (Nat.le_trans hBX hF23.size) _ rfl ?_
 intro g cap' v24 hown hgrow hat hlt
 have hT24 := tl_append hown HM2.out rfl hgrow hat rfl
 have hF24 := Only.trans hF23 hT24.only
 go_simp
 refine hK _ _ ⟨hF24, ?_⟩
 clear hK K
 refine wpAnyK_one (k := 11) (by kernel_rfl) ?_
 refine wpOp_step rfl (fun K hK => ?_)
 go_simp
 have hIk := hIH y (.agg #[.int .u8 (y.k : Int), .int .u64 (y.n : Int), .string (str y.s), .int .u8 (y.o : Int), .slice mb y.l.length cap1]) _ (T2 ++ zs [sg (opS o)]) B v24 hmy (hKX.only hF24 hap2).is hT24.own (Nat.le_trans hBX hF24.size) (by simp only [List.length_append, zs_len, List.length_cons, List.length_nil, ← HM2.out]; omega) (es_only hEX hF24 (hap2 _ hgB)) hgB
 go_at_call 165
 with_reducible refine hIk.mono ?_
 rintro e v25 ⟨l25, rfl, hU25⟩
 have hT25 := Tl.trans hT24 hU25
 have hF25 := Only.trans hF23 hT25.only
 clear hU25 hIk
 refine hK _ _ ⟨hF25, ?_⟩
 clear hK K
 refine wpAnyK_one (k := 12) (by kernel_rfl) ?_
 refine wpOp_step rfl (fun K hK => ?_)
 go_simp
 refine hK _ _ ⟨hF25, ?_⟩
 clear hK K
 refine wpAnyK_done (by kernel_rfl) ⟨rfl, ?_⟩
 clear hFi
 have hz6 := Only.size hF25
 have hlM := congrArg List.length (rfl : (T2 ++ zs [sg (opS o)] ++ zs (tellF d y)) = (T2 ++ zs [sg (opS o)] ++ zs (tellF d y)))
 obtain ⟨T5, hT5e⟩ : ∃ T5, T5 = (T2 ++ zs [sg (opS o)] ++ zs (tellF d y)) := ⟨_, rfl⟩
 have hlT5 : T5.length ≤ 1000000 := by rw [hT5e]; simp only [List.length_append, zs_len, List.length_cons, List.length_nil, ← HM2.out]; omega
 rw [← hT5e] at hT25
 have HT5 := Lib.hid hT5e
 clear hT5e hlM
 obtain ⟨M5, hM5⟩ : ∃ M5, M5 = T5.length := ⟨_, rfl⟩
 have ho5 := hT25.own
 rw [← hM5] at ho5 hlT5
 have HM5 := Lib.hid hM5
 clear hM5
 go_wp2_with (first | (go_at_call 186; ((with_reducible refine (sign_any _ _).mono ?_); (rintro e y1 ⟨rfl, hby⟩); have hoy := own_of ho5 hby)) | (at_builtin; refine wpList_append_lies _ rfl _ _ 62 rfl B 95 i0 _ 4 40 Tryz.underlying62 hi hz0 hz1 hz2 rfl (by decide) l25 M5 (cellsZ T5) rfl (hoy.alloc _) ⟨y1.heap.size, 0, none⟩ 1 1 (cellsZ (zs [sg [41]])) rfl rfl ?cN ?c0 (by decide) ?c1 ?c2 ?c3 _ rfl ?_))
 case cN => exact news_ok (cellsZ (zs [sg [41]])) 95 y1
 case c0 => exact cellsZ_one _
 case c1 => unfold maxLen; omega
 case c2 => omega
 case c3 => have h1 := hby.size; simp; omega
 intro g2 cap2 y5 hown2 hgrow2 hat2 hlt2
 go_wp2
 go_ret
 have hTz := (hT25.post (aB hby _)).trans (tl_append hown2 HM5.out rfl hgrow2 hat2 (by simp))
 rw [HT5.out] at hTz
 have hTy := hTx.trans (tl_fin (Below.refl _ _) hF23 hTz)
 rw [HT2.out] at hTy
 refine ⟨_, rfl, ?_⟩
 rw [show T ++ zs (sg [40] :: (tellF d x ++ sg (opS o) :: (tellF d y ++ [sg [41]]))) = (T ++ zs [sg [40]] ++ zs (tellF d x)) ++ zs [sg (opS o)] ++ zs (tellF d y) ++ zs [sg [41]] from by simp [zs]]
 exact hTy.pre hBw
end Go.Proofs.YtkibkaoffgnmkaaGreatDoor
