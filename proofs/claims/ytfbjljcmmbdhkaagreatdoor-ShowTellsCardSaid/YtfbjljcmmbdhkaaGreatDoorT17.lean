/- Contract of the document's Tell. -/
import Derived.Test.YtfbjljcmmbdhkaaGreatDoorT11
import Derived.Test.YtfbjljcmmbdhkaaGreatDoorT09
import Derived.Test.YtfbjljcmmbdhkaaGreatDoorT10
namespace Go.Proofs.YtfbjljcmmbdhkaaGreatDoor
set_option linter.unusedVariables false
set_option linter.unusedSimpArgs false
set_option maxRecDepth 100000
set_option maxHeartbeats 200000000
open Go.ChangeShapes Go.WideShapes Go.ChangeAt Go.RowKit
theorem nm_any (s : ByteArray) (w : World) : Calls Tryz.prog 83 #[.string s] w fun e w' => e = .returned (.agg #[.int .u8 1, .string s, .int .u64 0, .int .i64 0]) ∧ Below w.heap.size w w' := by
 go_enter Tryz.func83, Tryz.ntmps83
 go_wp2
 exact bodyPost_ret (res_tok rfl _ _ w.heap.size _ _ _ _ rfl (rowG_at _ _ _ _ rfl)) rfl ⟨rfl, (Below.refl _ _).alloc (Nat.le_refl _) _⟩
theorem sgn_any (s : ByteArray) (w : World) : Calls Tryz.prog 84 #[.string s] w fun e w' => e = .returned (.agg #[.int .u8 4, .string s, .int .u64 0, .int .i64 0]) ∧ Below w.heap.size w w' := by
 go_enter Tryz.func84, Tryz.ntmps84
 go_wp2
 exact bodyPost_ret (res_tok rfl _ _ w.heap.size _ _ _ _ rfl (rowG_at _ _ _ _ rfl)) rfl ⟨rfl, (Below.refl _ _).alloc (Nat.le_refl _) _⟩
theorem esign_any (o : Nat) (ho : o < 256) (w : World) : Calls Tryz.prog 85 #[.int .u8 (o : Int)] w fun e w' => e = .returned (.string (str (opS o))) ∧ Below w.heap.size w w' := by
 have hw : IntKind.i64.wrap (o : Int) = (o : Int) := by rw [IntKind.wrap_i64]; omega
 by_cases h : o < 15
 ·have c0 : (w.alloc (.cells #[.string ⟨#[]⟩, .string ⟨#[43]⟩, .string ⟨#[45]⟩, .string ⟨#[60, 60]⟩, .string ⟨#[60, 36]⟩, .string ⟨#[60]⟩, .string ⟨#[94]⟩, .string ⟨#[62, 62]⟩, .string ⟨#[62, 62, 62]⟩, .string ⟨#[124]⟩, .string ⟨#[38]⟩, .string ⟨#[42]⟩, .string ⟨#[42, 94]⟩, .string ⟨#[47]⟩, .string ⟨#[37]⟩] 9)).cell? ⟨w.heap.size, o, none⟩ = some (.string (str (opS o))) := by
   rw [new_cell]
   have hc : o = 0 ∨ o = 1 ∨ o = 2 ∨ o = 3 ∨ o = 4 ∨ o = 5 ∨ o = 6 ∨ o = 7 ∨ o = 8 ∨ o = 9 ∨ o = 10 ∨ o = 11 ∨ o = 12 ∨ o = 13 ∨ o = 14 := by omega
   rcases hc with rfl | rfl | rfl | rfl | rfl | rfl | rfl | rfl | rfl | rfl | rfl | rfl | rfl | rfl | rfl <;> rfl
  go_enter Tryz.func85, Tryz.ntmps85
  go_wp2
  go_ret
  exact ⟨rfl, aB (Below.refl _ _) _⟩
 ·have e : opS o = [] := opS_big (by omega)
  rw [e]
  go_enter Tryz.func85, Tryz.ntmps85
  go_wp2
  go_ret
  exact ⟨rfl, aB (Below.refl _ _) _⟩
theorem own_row_new (w : World) (T : List (Tk × Int)) (n B : Nat) (hn : n = T.length) (hB : B ≤ w.heap.size) (hl : n ≤ 1000000) : (w.alloc (.cells (cellsZ T).toArray 95)).ownsRow B 95 4 (.slice (some ⟨w.heap.size, 0, none⟩) n n) n (cellsZ T) := by
 subst hn
 refine ⟨cellsZ_len T, .inr ⟨w.heap.size, T.length, (cellsZ T).toArray, rfl, hB, ?_, Nat.le_refl _, by unfold maxLen; omega, by simp [cellsZ_len], ?_⟩⟩
 ·show (w.heap.push _)[w.heap.size]? = _; simp
 ·rw [← cellsZ_len T]; exact List.take_length
theorem own_cells {w : World} {B n : Nat} {g c : Nat} {T : List (Tk × Int)} (h : w.ownsRow B 95 4 (.slice (some ⟨g, 0, none⟩) n c) n (cellsZ T)) : ∀ j u, (cellsZ T)[j]? = some u → w.cell? ((⟨g, 0, none⟩ : Addr).add j) = some u := fun j u hu => by
 rw [addp, Nat.zero_add]
 have hj : j < (cellsZ T).length := (List.getElem?_eq_some_iff.1 hu).1
 exact (h.cellAt j (by have := h.1; omega)).trans hu
def RtP (w : World) (T : List Tk) (r : Ending) (w' : World) : Prop := (∃ g c, r = .returned (.slice (some ⟨g, 0, none⟩) T.length c) ∧ w'.ownsRow w.heap.size 95 4 (.slice (some ⟨g, 0, none⟩) T.length c) T.length (cellsZ (zs T))) ∧ Below w.heap.size w w'
def RtellIH (d : Nat) : Prop := ∀ (x : Xp) (v : Value) (w : World), mayB d x = true → IsB w v x → x.nodes ≤ 100000 → Calls Tryz.prog 55 #[v] w (RtP w (tellF d x))
theorem tell_pos : ∀ (d : Nat) (x : Xp), mayB d x = true → 0 < (tellF d x).length := by
 intro d x h
 cases d with
 | zero => simp [mayB] at h
 | succ d =>
  obtain ⟨k, n, s, o, l⟩ := x
  rw [mayB, Bool.and_eq_true] at h
  rcases fit_k h.1 with rfl | rfl | rfl | rfl | rfl <;> simp [tellF]
theorem rt_num (n : Nat) (ma : Option Addr) (cap : Nat) (w : World) : Calls Tryz.prog 55 #[.agg #[.int .u8 1, .int .u64 (n : Int), .string ⟨#[]⟩, .int .u8 0, .slice ma 0 cap]] w (RtP w [⟨3, [], n⟩]) := by
 go_enter Tryz.func55, Tryz.ntmps55
 go_wp2
 go_ret
 have hO := own_row_new (w.alloc (.cells #[.int .u8 1, .int .u64 (n : Int), .string ⟨#[]⟩, .int .u8 0, .slice ma 0 cap] 47)) (zs [⟨3, [], n⟩]) 1 w.heap.size rfl (by simp) (by omega)
 rw [World.size_alloc] at hO
 exact ⟨⟨_, _, rfl, hO⟩, aB (aB (Below.refl _ _) _) _⟩
theorem rt_var (s : List UInt8) (ma : Option Addr) (cap : Nat) (w : World) : Calls Tryz.prog 55 #[.agg #[.int .u8 2, .int .u64 0, .string (str s), .int .u8 0, .slice ma 0 cap]] w (RtP w [nmT s]) := by
 go_enter Tryz.func55, Tryz.ntmps55
 go_wp2_with (go_at_call 83; ((with_reducible refine (nm_any (str s) _).mono ?_); (rintro e x1 ⟨rfl, hb1⟩)))
 go_ret
 have hB1 : Below w.heap.size w x1 := tr (aB (Below.refl _ _) _) hb1
 exact ⟨⟨_, _, rfl, own_row_new x1 (zs [nmT s]) 1 w.heap.size rfl hB1.size (by omega)⟩, aB hB1 _⟩
theorem rt_4 (s : List UInt8) (ma : Option Addr) (cap : Nat) (w : World) : Calls Tryz.prog 55 #[.agg #[.int .u8 4, .int .u64 0, .string (str s), .int .u8 0, .slice ma 0 cap]] w (RtP w [sg [35], nmT s]) := by
 go_enter Tryz.func55, Tryz.ntmps55
 go_wp2
 obtain ⟨W, hW⟩ : ∃ W, w.alloc (.cells #[.int .u8 4, .int .u64 0, .string (str s), .int .u8 0, .slice ma 0 cap] 47) = W := ⟨_, rfl⟩
 have hBw : Below w.heap.size w W := by rw [← hW]; exact aB (Below.refl _ _) _
 have b2 : W.cell? ⟨w.heap.size, 2, none⟩ = some (.string (str s)) := by rw [← hW]; exact new_cell _ _ _ 2
 have hzW : w.heap.size < W.heap.size := by rw [← hW]; simp
 rw [hW]
 clear hW
 have hF0 : Below W.heap.size W W.drew := bdN (Below.refl _ _) 1
 have hFi : ∀ w', Below W.heap.size W w' → w'.cell? ⟨w.heap.size, 2, none⟩ = some (.string (str s)) ∧ w.heap.size < w'.heap.size := fun w' h => ⟨stay h b2, Nat.lt_of_lt_of_le hzW h.size⟩
 refine region_KN (fun w' => Below W.heap.size W w') (by kernel_rfl) ?_
 have q : Pq [1, 2] := trivial
 iterate 2
  refine tkN q rfl (by kernel_rfl) hF0 fun K hK => ?_
  replace q := q.tl
  apply Exists.intro
  refine ⟨Or.inl ⟨by kernel_rfl, fun w' hf => ?_⟩, ?_⟩
  ·obtain ⟨s2, sl⟩ := hFi _ hf
   go_simp
   try exact rfl
  go_simp
  refine hK _ ?_
  clear hK K
 refine wpAnyK_one (k := 0) (by kernel_rfl) ?_
 refine wpOp_step rfl (fun K hK => ?_)
 go_simp
 go_at_call 84
 with_reducible refine (sgn_any _ _).mono ?_
 rintro e v1 ⟨rfl, hb1⟩
 have hF1 := tr hF0 hb1
 refine hK _ _ ⟨hF1, ?_⟩
 clear hK K
 refine wpAnyK_one (k := 3) (by kernel_rfl) ?_
 refine wpOp_step rfl (fun K hK => ?_)
 go_simp
 go_at_call 83
 with_reducible refine (nm_any _ _).mono ?_
 rintro e v2 ⟨rfl, hb2⟩
 have hF2 := tr hF1 hb2
 refine hK _ _ ⟨hF2, ?_⟩
 clear hK K
 refine wpAnyK_one (k := 4) (by kernel_rfl) ?_
 refine wpOp_step rfl (fun K hK => ?_)
 go_simp
 obtain ⟨v3, hv3⟩ : ∃ v3, (v2.alloc (.cells #[.int .u8 4, .string ⟨#[35]⟩, .int .u64 0, .int .i64 0, .int .u8 1, .string (str s), .int .u64 0, .int .i64 0] 95)) = v3 := ⟨_, rfl⟩
 have hF3 : Below W.heap.size W v3 := by rw [← hv3]; exact aB hF2 _
 have ho3 : v3.ownsRow w.heap.size 95 4 (.slice (some ⟨v2.heap.size, 0, none⟩) 2 2) 2 (cellsZ (zs [sg [35], nmT s])) := by rw [← hv3]; exact own_row_new v2 (zs [sg [35], nmT s]) 2 w.heap.size rfl (Nat.le_trans hBw.size (Below.size hF2)) (by omega)
 have hz3 : v2.heap.size < v3.heap.size := by rw [← hv3]; simp
 rw [hv3]
 clear hv3
 refine hK _ _ ⟨hF3, ?_⟩
 clear hK K
 refine wpAnyK_one (k := 5) (by kernel_rfl) ?_
 refine wpOp_step rfl (fun K hK => ?_)
 go_simp
 refine hK _ _ ⟨hF3, ?_⟩
 clear hK K
 refine wpAnyK_done (by kernel_rfl) ⟨rfl, ?_⟩
 go_wp2
 go_ret
 exact ⟨⟨_, _, rfl, ho3⟩, hBw.trans (Below.mono hF3 hBw.size)⟩
theorem KidIn.of {B : Nat} {w w' : World} {b off : Nat} {x : Xp} {ma : Option Addr} {cap : Nat} (h : KidIn B w b off x ma cap) (hb : Below w.heap.size w w') : KidIn B w' b off x ma cap := h.only (S := fun _ => False) (only_below hb) (fun _ _ h => h)
theorem KidIn.isB {B : Nat} {w w' : World} {b off : Nat} {x : Xp} {ma : Option Addr} {cap : Nat} (h : KidIn B w b off x ma cap) (hB : B ≤ w.heap.size) (hb : Below w.heap.size w w') : IsB w' (.agg #[.int .u8 (x.k : Int), .int .u64 (x.n : Int), .string (str x.s), .int .u8 (x.o : Int), .slice ma x.l.length cap]) x := (h.of hb).is.mono fun b hb' => Nat.lt_of_lt_of_le hb' (Nat.le_trans hB hb.size)
theorem rt_5 (d : Nat) (hIH : RtellIH d) (x : Xp) (hmx : mayB d x = true) (hn : x.nodes ≤ 100000) (s : List UInt8) (b off cap : Nat) (ma : Option Addr) (cap0 : Nat) (w : World) (hK : KidIn w.heap.size w b off x ma cap0) :
 Calls Tryz.prog 55 #[.agg #[.int .u8 5, .int .u64 0, .string (str s), .int .u8 0, .slice (some ⟨b, off, none⟩) 1 cap]] w (RtP w (nmT s :: sg [91] :: (tellF d x ++ [sg [93]]))) := by
 obtain ⟨i0, hi, hz0, hz1, hz2⟩ := info_parts infoT
 have htl := tell_len d x hmx
 have htp := tell_pos d x hmx
 go_enter Tryz.func55, Tryz.ntmps55
 go_wp2
 obtain ⟨W, hW⟩ : ∃ W, w.alloc (.cells #[.int .u8 5, .int .u64 0, .string (str s), .int .u8 0, .slice (some ⟨b, off, none⟩) 1 cap] 47) = W := ⟨_, rfl⟩
 have hBw : Below w.heap.size w W := by rw [← hW]; exact aB (Below.refl _ _) _
 have b2 : W.cell? ⟨w.heap.size, 2, none⟩ = some (.string (str s)) := by rw [← hW]; exact new_cell _ _ _ 2
 have b4 : W.cell? ⟨w.heap.size, 4, none⟩ = some (.slice (some ⟨b, off, none⟩) 1 cap) := by rw [← hW]; exact new_cell _ _ _ 4
 have hzW : w.heap.size < W.heap.size := by rw [← hW]; simp
 rw [hW]
 clear hW
 have hF0 : Below W.heap.size W W.drew := bdN (Below.refl _ _) 1
 have hKW := hK.of hBw
 have hKK : ∀ w', Below W.heap.size W w' → IsB w' (.agg #[.int .u8 (x.k : Int), .int .u64 (x.n : Int), .string (str x.s), .int .u8 (x.o : Int), .slice ma x.l.length cap0]) x := fun w' h => hKW.isB hBw.size h
 have hFi : ∀ w', Below W.heap.size W w' → w'.cell? ⟨w.heap.size, 2, none⟩ = some (.string (str s)) ∧ w'.cell? ⟨w.heap.size, 4, none⟩ = some (.slice (some ⟨b, off, none⟩) 1 cap) ∧ w.heap.size < w'.heap.size ∧ w'.cell? ⟨b, off, none⟩ = some (.int .u8 (x.k : Int)) ∧ w'.cell? ⟨b, off + 1, none⟩ = some (.int .u64 (x.n : Int)) ∧ w'.cell? ⟨b, off + 2, none⟩ = some (.string (str x.s)) ∧ w'.cell? ⟨b, off + 3, none⟩ = some (.int .u8 (x.o : Int)) ∧ w'.cell? ⟨b, off + 4, none⟩ = some (.slice ma x.l.length cap0) ∧ b < w'.heap.size := fun w' h => ⟨stay h b2, stay h b4, Nat.lt_of_lt_of_le hzW h.size, stay h hKW.c0, stay h hKW.c1, stay h hKW.c2, stay h hKW.c3, stay h hKW.c4, Nat.lt_of_lt_of_le hKW.lt' h.size⟩
 refine region_KN (fun w' => Below W.heap.size W w') (by kernel_rfl) ?_
 have q : Pq [0, 1, 5, 6, 7, 8] := trivial
 iterate 6
  refine tkN q rfl (by kernel_rfl) hF0 fun K hK => ?_
  replace q := q.tl
  apply Exists.intro
  refine ⟨Or.inl ⟨by kernel_rfl, fun w' hf => ?_⟩, ?_⟩
  ·obtain ⟨s2, s4, sl, k0, k1, k2, k3, k4, kl⟩ := hFi _ hf
   go_simp
   try exact rfl
  go_simp
  refine hK _ ?_
  clear hK K
 refine wpAnyK_one (k := 2) (by kernel_rfl) ?_
 refine wpOp_step rfl (fun K hK => ?_)
 go_simp
 go_at_call 83
 with_reducible refine (nm_any _ _).mono ?_
 rintro e v4 ⟨rfl, hb4⟩
 have hF4 := tr hF0 hb4
 refine hK _ _ ⟨hF4, ?_⟩
 clear hK K
 refine wpAnyK_one (k := 3) (by kernel_rfl) ?_
 refine wpOp_step rfl (fun K hK => ?_)
 go_simp
 go_at_call 84
 with_reducible refine (sgn_any _ _).mono ?_
 rintro e v5 ⟨rfl, hb5⟩
 have hF5 := tr hF4 hb5
 refine hK _ _ ⟨hF5, ?_⟩
 clear hK K
 refine wpAnyK_two (k1 := 4) (k2 := 9) (by kernel_rfl) ?_ ?_
 ·refine wpOp_step rfl (fun K hK => ?_)
  go_simp
  obtain ⟨v6, hv6⟩ : ∃ v6, (v5.alloc (.cells #[.int .u8 1, .string (str s), .int .u64 0, .int .i64 0, .int .u8 4, .string ⟨#[91]⟩, .int .u64 0, .int .i64 0] 95)) = v6 := ⟨_, rfl⟩
  have hF6 : Below W.heap.size W v6 := by rw [← hv6]; exact aB hF5 _
  have ho6 : v6.ownsRow w.heap.size 95 4 (.slice (some ⟨v5.heap.size, 0, none⟩) 2 2) 2 (cellsZ (zs [nmT s, sg [91]])) := by rw [← hv6]; exact own_row_new v5 (zs [nmT s, sg [91]]) 2 w.heap.size rfl (Nat.le_trans hBw.size (Below.size hF5)) (by omega)
  have hz6 : v5.heap.size < v6.heap.size := by rw [← hv6]; simp
  rw [hv6]
  clear hv6
  refine hK _ _ ⟨hF6, ?_⟩
  clear hK K
  refine wpAnyK_one (k := 9) (by kernel_rfl) ?_
  refine wpOp_step rfl (fun K hK => ?_)
  go_simp
  have hIk := hIH x (.agg #[.int .u8 (x.k : Int), .int .u64 (x.n : Int), .string (str x.s), .int .u8 (x.o : Int), .slice ma x.l.length cap0]) v6 hmx (hKK v6 hF6) hn
  unfold RtP at hIk
  go_at_call 55
  with_reducible refine hIk.mono ?_
  rintro e v7 ⟨⟨g7, c7, rfl, hl7⟩, hb7⟩
  have hF7 := tr hF6 hb7
  clear hIk
  have ho7 := own_of ho6 hb7
  go_simp
  refine hK _ _ ⟨hF7, ?_⟩
  clear hK K
  refine wpAnyK_one (k := 10) (by kernel_rfl) ?_
  refine wpOp_step rfl (fun K hK => ?_)
  refine step_append_lies _ rfl (.tmp 32) (.tmp 37) 62 rfl w.heap.size 95 i0 _ 4 40 Tryz.underlying62 hi hz0 hz1 hz2 rfl (by decide) (.slice (some ⟨v5.heap.size, 0, none⟩) 2 2) 2 (cellsZ (zs [nmT s, sg [91]])) rfl ho7 ⟨g7, 0, none⟩ (tellF d x).length c7 (cellsZ (zs (tellF d x))) rfl (by rw [cellsZ_len, zs_len]) (own_cells hl7) (cellsZ_one _) htp (by unfold maxLen; omega) (by omega) (Nat.le_trans hBw.size (Below.size hF7)) _ rfl ?_
  intro g cap' v8 hown hgrow hat hlt
  have hF8 : Below W.heap.size W v8 := Below.grown hF7 hgrow (Below.size hF7) (fun j hj => by simp only [Value.ownBlock, Option.some.injEq] at hj; have := Below.size hF5; omega)
  go_simp
  refine hK _ _ ⟨hF8, ?_⟩
  clear hK K
  refine wpAnyK_one (k := 11) (by kernel_rfl) ?_
  refine wpOp_step rfl (fun K hK => ?_)
  go_simp
  refine hK _ _ ⟨hF8, ?_⟩
  clear hK K
  refine wpAnyK_done (by kernel_rfl) ⟨rfl, ?_⟩
  have hgW : W.heap.size ≤ g := by have h1 := Below.size hF5; have h2 := Below.size hF7; simp only [Value.ownBlock, Option.some.injEq] at hat; omega
  have hgb : ∀ j, (Value.slice (some ⟨g, 0, none⟩) (2 + (tellF d x).length) cap').ownBlock = some j → W.heap.size ≤ j := fun j hj => by simp only [Value.ownBlock, Option.some.injEq] at hj; omega
  have hlq : 2 + (tellF d x).length ≤ 1000000 := by omega
  go_wp2_with (first | (go_at_call 84; ((with_reducible refine (sgn_any _ _).mono ?_); (rintro e y1 ⟨rfl, hby⟩); have hoy := own_of hown hby; have hFy := tr hF8 hby)) | (at_builtin; refine wpList_append_lies _ rfl _ _ 62 rfl w.heap.size 95 i0 _ 4 40 Tryz.underlying62 hi hz0 hz1 hz2 rfl (by decide) _ (2 + (tellF d x).length) (cellsZ (zs [nmT s, sg [91]]) ++ cellsZ (zs (tellF d x))) rfl (hoy.alloc _) ⟨y1.heap.size, 0, none⟩ 1 1 (cellsZ (zs [sg [93]])) rfl rfl ?cN ?c0 (by decide) ?c1 ?c2 ?c3 _ rfl ?_))
  case cN => exact news_ok (cellsZ (zs [sg [93]])) 95 y1
  case c0 => exact cellsZ_one _
  case c1 => unfold maxLen; omega
  case c2 => omega
  case c3 => have h1 := hFy.size; have h2 := hBw.size; simp; omega
  intro g2 cap2 y5 hown2 hgrow2 hat2 hlt2
  go_wp2
  go_ret
  have hFz : Below W.heap.size W y5 := Below.grown (aB hFy _) hgrow2 (aB hFy _).size (fun j hj => hgb j hj)
  have hlen : 2 + (tellF d x).length + 1 = (nmT s :: sg [91] :: (tellF d x ++ [sg [93]])).length := by simp; omega
  have hcel : cellsZ (zs (nmT s :: sg [91] :: (tellF d x ++ [sg [93]]))) = cellsZ (zs [nmT s, sg [91]]) ++ cellsZ (zs (tellF d x)) ++ cellsZ (zs [sg [93]]) := by simp [cellsZ, zs]
  rw [hlen] at hown2
  refine ⟨⟨g2, cap2, by rw [← hlen]; rfl, ?_⟩, hBw.trans (Below.mono hFz hBw.size)⟩
  rw [hcel]
  first | exact hown2 | (simp only [List.append_assoc] at hown2 ⊢; exact hown2)
 ·refine wpOp_step rfl (fun K hK => ?_)
  go_simp
  have hIk := hIH x (.agg #[.int .u8 (x.k : Int), .int .u64 (x.n : Int), .string (str x.s), .int .u8 (x.o : Int), .slice ma x.l.length cap0]) v5 hmx (hKK v5 hF5) hn
  unfold RtP at hIk
  go_at_call 55
  with_reducible refine hIk.mono ?_
  rintro e v9 ⟨⟨g9, c9, rfl, hl9⟩, hb9⟩
  have hF9 := tr hF5 hb9
  clear hIk
  go_simp
  refine hK _ _ ⟨hF9, ?_⟩
  clear hK K
  refine wpAnyK_one (k := 4) (by kernel_rfl) ?_
  refine wpOp_step rfl (fun K hK => ?_)
  go_simp
  obtain ⟨v10, hv10⟩ : ∃ v10, (v9.alloc (.cells #[.int .u8 1, .string (str s), .int .u64 0, .int .i64 0, .int .u8 4, .string ⟨#[91]⟩, .int .u64 0, .int .i64 0] 95)) = v10 := ⟨_, rfl⟩
  have hF10 : Below W.heap.size W v10 := by rw [← hv10]; exact aB hF9 _
  have ho10 : v10.ownsRow w.heap.size 95 4 (.slice (some ⟨v9.heap.size, 0, none⟩) 2 2) 2 (cellsZ (zs [nmT s, sg [91]])) := by rw [← hv10]; exact own_row_new v9 (zs [nmT s, sg [91]]) 2 w.heap.size rfl (Nat.le_trans hBw.size (Below.size hF9)) (by omega)
  have hz10 : v9.heap.size < v10.heap.size := by rw [← hv10]; simp
  have hl10 := own_of hl9 (show Below v9.heap.size v9 v10 by rw [← hv10]; exact aB (Below.refl _ _) _)
  rw [hv10]
  clear hv10
  refine hK _ _ ⟨hF10, ?_⟩
  clear hK K
  refine wpAnyK_one (k := 10) (by kernel_rfl) ?_
  refine wpOp_step rfl (fun K hK => ?_)
  refine step_append_lies _ rfl (.tmp 32) (.tmp 37) 62 rfl w.heap.size 95 i0 _ 4 40 Tryz.underlying62 hi hz0 hz1 hz2 rfl (by decide) (.slice (some ⟨v9.heap.size, 0, none⟩) 2 2) 2 (cellsZ (zs [nmT s, sg [91]])) rfl ho10 ⟨g9, 0, none⟩ (tellF d x).length c9 (cellsZ (zs (tellF d x))) rfl (by rw [cellsZ_len, zs_len]) (own_cells hl10) (cellsZ_one _) htp (by unfold maxLen; omega) (by omega) (Nat.le_trans hBw.size (Below.size hF10)) _ rfl ?_
  intro g cap' v11 hown hgrow hat hlt
  have hF11 : Below W.heap.size W v11 := Below.grown hF10 hgrow (Below.size hF10) (fun j hj => by simp only [Value.ownBlock, Option.some.injEq] at hj; have := Below.size hF9; omega)
  go_simp
  refine hK _ _ ⟨hF11, ?_⟩
  clear hK K
  refine wpAnyK_one (k := 11) (by kernel_rfl) ?_
  refine wpOp_step rfl (fun K hK => ?_)
  go_simp
  refine hK _ _ ⟨hF11, ?_⟩
  clear hK K
  refine wpAnyK_done (by kernel_rfl) ⟨rfl, ?_⟩
  have hgW : W.heap.size ≤ g := by have h1 := Below.size hF9; have h2 := Below.size hF10; simp only [Value.ownBlock, Option.some.injEq] at hat; omega
  have hgb : ∀ j, (Value.slice (some ⟨g, 0, none⟩) (2 + (tellF d x).length) cap').ownBlock = some j → W.heap.size ≤ j := fun j hj => by simp only [Value.ownBlock, Option.some.injEq] at hj; omega
  have hlq : 2 + (tellF d x).length ≤ 1000000 := by omega
  go_wp2_with (first | (go_at_call 84; ((with_reducible refine (sgn_any _ _).mono ?_); (rintro e y1 ⟨rfl, hby⟩); have hoy := own_of hown hby; have hFy := tr hF11 hby)) | (at_builtin; refine wpList_append_lies _ rfl _ _ 62 rfl w.heap.size 95 i0 _ 4 40 Tryz.underlying62 hi hz0 hz1 hz2 rfl (by decide) _ (2 + (tellF d x).length) (cellsZ (zs [nmT s, sg [91]]) ++ cellsZ (zs (tellF d x))) rfl (hoy.alloc _) ⟨y1.heap.size, 0, none⟩ 1 1 (cellsZ (zs [sg [93]])) rfl rfl ?cN ?c0 (by decide) ?c1 ?c2 ?c3 _ rfl ?_))
  case cN => exact news_ok (cellsZ (zs [sg [93]])) 95 y1
  case c0 => exact cellsZ_one _
  case c1 => unfold maxLen; omega
  case c2 => omega
  case c3 => have h1 := hFy.size; have h2 := hBw.size; simp; omega
  intro g2 cap2 y5 hown2 hgrow2 hat2 hlt2
  go_wp2
  go_ret
  have hFz : Below W.heap.size W y5 := Below.grown (aB hFy _) hgrow2 (aB hFy _).size (fun j hj => hgb j hj)
  have hlen : 2 + (tellF d x).length + 1 = (nmT s :: sg [91] :: (tellF d x ++ [sg [93]])).length := by simp; omega
  have hcel : cellsZ (zs (nmT s :: sg [91] :: (tellF d x ++ [sg [93]]))) = cellsZ (zs [nmT s, sg [91]]) ++ cellsZ (zs (tellF d x)) ++ cellsZ (zs [sg [93]]) := by simp [cellsZ, zs]
  rw [hlen] at hown2
  refine ⟨⟨g2, cap2, by rw [← hlen]; rfl, ?_⟩, hBw.trans (Below.mono hFz hBw.size)⟩
  rw [hcel]
  first | exact hown2 | (simp only [List.append_assoc] at hown2 ⊢; exact hown2)
theorem fr_grown {w w5 W : World} {g0 : Nat} (hF : Below W.heap.size W w) (hg : w.grownBy w5 (some g0)) (h0 : W.heap.size ≤ g0) : Below W.heap.size W w5 := Below.grown hF hg hF.size (fun j hj => by cases hj; exact h0)
theorem rt_3 (d : Nat) (hIH : RtellIH d) (x y : Xp) (hmx : mayB d x = true) (hmy : mayB d y = true) (hn : x.nodes ≤ 100000) (hny : y.nodes ≤ 100000) (o : Nat) (ho256 : o < 256) (b off cap : Nat) (ma : Option Addr) (cap0 : Nat) (mb : Option Addr) (cap1 : Nat) (w : World)
 (hK : KidIn w.heap.size w b off x ma cap0) (hK1 : KidIn w.heap.size w b (off + 5) y mb cap1) : Calls Tryz.prog 55 #[.agg #[.int .u8 3, .int .u64 0, .string ⟨#[]⟩, .int .u8 (o : Int), .slice (some ⟨b, off, none⟩) 2 cap]] w (RtP w (sg [40] :: (tellF d x ++ sg (opS o) :: (tellF d y ++ [sg [41]])))) := by
 obtain ⟨i0, hi, hz0, hz1, hz2⟩ := info_parts infoT
 have htl := tell_len d x hmx
 have htp := tell_pos d x hmx
 have htly := tell_len d y hmy
 have htpy := tell_pos d y hmy
 go_enter Tryz.func55, Tryz.ntmps55
 go_wp2
 obtain ⟨W, hW⟩ : ∃ W, w.alloc (.cells #[.int .u8 3, .int .u64 0, .string ⟨#[]⟩, .int .u8 (o : Int), .slice (some ⟨b, off, none⟩) 2 cap] 47) = W := ⟨_, rfl⟩
 have hBw : Below w.heap.size w W := by rw [← hW]; exact aB (Below.refl _ _) _
 have b3 : W.cell? ⟨w.heap.size, 3, none⟩ = some (.int .u8 (o : Int)) := by rw [← hW]; exact new_cell _ _ _ 3
 have b4 : W.cell? ⟨w.heap.size, 4, none⟩ = some (.slice (some ⟨b, off, none⟩) 2 cap) := by rw [← hW]; exact new_cell _ _ _ 4
 have hzW : w.heap.size < W.heap.size := by rw [← hW]; simp
 rw [hW]
 clear hW
 have hF0 : Below W.heap.size W W.drew := bdN (Below.refl _ _) 1
 have hKW := hK.of hBw
 have hKW1 := hK1.of hBw
 have hKK : ∀ w', Below W.heap.size W w' → IsB w' (.agg #[.int .u8 (x.k : Int), .int .u64 (x.n : Int), .string (str x.s), .int .u8 (x.o : Int), .slice ma x.l.length cap0]) x := fun w' h => hKW.isB hBw.size h
 have hKK1 : ∀ w', Below W.heap.size W w' → IsB w' (.agg #[.int .u8 (y.k : Int), .int .u64 (y.n : Int), .string (str y.s), .int .u8 (y.o : Int), .slice mb y.l.length cap1]) y := fun w' h => hKW1.isB hBw.size h
 have hFi : ∀ w', Below W.heap.size W w' → w'.cell? ⟨w.heap.size, 4, none⟩ = some (.slice (some ⟨b, off, none⟩) 2 cap) ∧ w.heap.size < w'.heap.size ∧ w'.cell? ⟨b, off, none⟩ = some (.int .u8 (x.k : Int)) ∧ w'.cell? ⟨b, off + 1, none⟩ = some (.int .u64 (x.n : Int)) ∧ w'.cell? ⟨b, off + 2, none⟩ = some (.string (str x.s)) ∧ w'.cell? ⟨b, off + 3, none⟩ = some (.int .u8 (x.o : Int)) ∧ w'.cell? ⟨b, off + 4, none⟩ = some (.slice ma x.l.length cap0) ∧ b < w'.heap.size := fun w' h => ⟨stay h b4, Nat.lt_of_lt_of_le hzW h.size, stay h hKW.c0, stay h hKW.c1, stay h hKW.c2, stay h hKW.c3, stay h hKW.c4, Nat.lt_of_lt_of_le hKW.lt' h.size⟩
 refine region_KN (fun w' => Below W.heap.size W w') (by kernel_rfl) ?_
 have q : Pq [2, 3, 4, 5] := trivial
 iterate 4
  refine tkN q rfl (by kernel_rfl) hF0 fun K hK => ?_
  replace q := q.tl
  apply Exists.intro
  refine ⟨Or.inl ⟨by kernel_rfl, fun w' hf => ?_⟩, ?_⟩
  ·obtain ⟨s4, sl, k0, k1, k2, k3, k4, kl⟩ := hFi _ hf
   go_simp
   try exact rfl
  go_simp
  refine hK _ ?_
  clear hK K
 refine wpAnyK_one (k := 0) (by kernel_rfl) ?_
 refine wpOp_step rfl (fun K hK => ?_)
 go_simp
 go_at_call 84
 with_reducible refine (sgn_any _ _).mono ?_
 rintro e v12 ⟨rfl, hb12⟩
 have hF12 := tr hF0 hb12
 refine hK _ _ ⟨hF12, ?_⟩
 clear hK K
 refine wpAnyK_two (k1 := 1) (k2 := 6) (by kernel_rfl) ?_ ?_
 ·refine wpOp_step rfl (fun K hK => ?_)
  go_simp
  obtain ⟨v13, hv13⟩ : ∃ v13, (v12.alloc (.cells #[.int .u8 4, .string ⟨#[40]⟩, .int .u64 0, .int .i64 0] 95)) = v13 := ⟨_, rfl⟩
  have hF13 : Below W.heap.size W v13 := by rw [← hv13]; exact aB hF12 _
  have ho13 : v13.ownsRow w.heap.size 95 4 (.slice (some ⟨v12.heap.size, 0, none⟩) 1 1) 1 (cellsZ (zs [sg [40]])) := by rw [← hv13]; exact own_row_new v12 (zs [sg [40]]) 1 w.heap.size rfl (Nat.le_trans hBw.size (Below.size hF12)) (by omega)
  have hz13 : v12.heap.size < v13.heap.size := by rw [← hv13]; simp
  rw [hv13]
  clear hv13
  refine hK _ _ ⟨hF13, ?_⟩
  clear hK K
  refine wpAnyK_one (k := 6) (by kernel_rfl) ?_
  refine wpOp_step rfl (fun K hK => ?_)
  go_simp
  have hIk := hIH x (.agg #[.int .u8 (x.k : Int), .int .u64 (x.n : Int), .string (str x.s), .int .u8 (x.o : Int), .slice ma x.l.length cap0]) v13 hmx (hKK v13 hF13) hn
  unfold RtP at hIk
  go_at_call 55
  with_reducible refine hIk.mono ?_
  rintro e v14 ⟨⟨g14, c14, rfl, hl14⟩, hb14⟩
  have hF14 := tr hF13 hb14
  clear hIk
  have ho14 := own_of ho13 hb14
  go_simp
  refine hK _ _ ⟨hF14, ?_⟩
  clear hK K
  refine wpAnyK_one (k := 7) (by kernel_rfl) ?_
  refine wpOp_step rfl (fun K hK => ?_)
  refine step_append_lies _ rfl (.tmp 44) (.tmp 49) 62 rfl w.heap.size 95 i0 _ 4 40 Tryz.underlying62 hi hz0 hz1 hz2 rfl (by decide) (.slice (some ⟨v12.heap.size, 0, none⟩) 1 1) 1 (cellsZ (zs [sg [40]])) rfl ho14 ⟨g14, 0, none⟩ (tellF d x).length c14 (cellsZ (zs (tellF d x))) rfl (by rw [cellsZ_len, zs_len]) (own_cells hl14) (cellsZ_one _) htp (by unfold maxLen; omega) (by omega) (Nat.le_trans hBw.size (Below.size hF14)) _ rfl ?_
  intro g cap' v15 hown hgrow hat hlt
  have hF15 : Below W.heap.size W v15 := Below.grown hF14 hgrow (Below.size hF14) (fun j hj => by simp only [Value.ownBlock, Option.some.injEq] at hj; have := Below.size hF12; omega)
  go_simp
  refine hK _ _ ⟨hF15, ?_⟩
  clear hK K
  refine wpAnyK_one (k := 8) (by kernel_rfl) ?_
  refine wpOp_step rfl (fun K hK => ?_)
  go_simp
  refine hK _ _ ⟨hF15, ?_⟩
  clear hK K
  refine wpAnyK_done (by kernel_rfl) ⟨rfl, ?_⟩
  have hgW : W.heap.size ≤ g := by have h1 := Below.size hF12; have h2 := Below.size hF14; simp only [Value.ownBlock, Option.some.injEq] at hat; omega
  have hF := hF15
  have hlq : (tellF d x).length ≤ 500000 := by omega
  have hlqy : (tellF d y).length ≤ 500000 := by omega
  obtain ⟨T1, hT1⟩ : ∃ T1, T1 = zs [sg [40]] ++ zs (tellF d x) := ⟨_, rfl⟩
  have ho1 : v15.ownsRow w.heap.size 95 4 (.slice (some ⟨g, 0, none⟩) (1 + (tellF d x).length) cap') (1 + (tellF d x).length) (cellsZ T1) := by rw [hT1, cellsZ_app]; exact hown
  have HT1 := Lib.hid hT1
  clear hT1 hown
  have c3 := stay hF b3
  have c3l := Nat.lt_of_lt_of_le hzW hF.size
  go_wp2_with (first | (go_at_call 85; ((with_reducible refine (esign_any o ho256 _).mono ?_); (rintro e y1 ⟨rfl, hy1⟩); have ho2 := own_of ho1 hy1; have hG1 := tr hF hy1)) | (go_at_call 84; ((with_reducible refine (sgn_any _ _).mono ?_); (rintro e y2 ⟨rfl, hy2⟩); have ho3 := own_of ho2 hy2; have hG2 := tr hG1 hy2)) | (at_builtin; refine wpList_append_lies _ rfl _ _ 62 rfl w.heap.size 95 i0 _ 4 40 Tryz.underlying62 hi hz0 hz1 hz2 rfl (by decide) _ (1 + (tellF d x).length) (cellsZ (T1)) rfl (ho3.alloc _) ⟨y2.heap.size, 0, none⟩ 1 1 (cellsZ (zs [sg (opS o)])) rfl ?cL ?cN ?c0 ?cP ?c1 ?c2 ?c3 _ rfl ?_))
  case cL => exact rfl
  case cN => exact news_ok (cellsZ (zs [sg (opS o)])) 95 y2
  case c0 => exact cellsZ_one _
  case cP => exact by decide
  case c1 => unfold maxLen; omega
  case c2 => omega
  case c3 => have h1 := hG2.size; have h2 := hBw.size; simp; omega
  intro g2 cap2 u1 hown2 hgrow2 hat2 hlt2
  have hH1 : Below W.heap.size W u1 := fr_grown (aB hG2 _) hgrow2 hgW
  have hg2 : W.heap.size ≤ g2 := by have h1 := hG2.size; simp only [Value.ownBlock, Option.some.injEq] at hat2; omega
  obtain ⟨T2, hT2⟩ : ∃ T2, T2 = T1 ++ zs [sg (opS o)] := ⟨_, rfl⟩
  have hp1 : u1.ownsRow w.heap.size 95 4 (.slice (some ⟨g2, 0, none⟩) (1 + (tellF d x).length + 1) cap2) (1 + (tellF d x).length + 1) (cellsZ T2) := by rw [hT2, cellsZ_app]; exact hown2
  have HT2 := Lib.hid hT2
  clear hT2 hown2 c3 c3l
  have c4 := stay hH1 b4
  have c4l := Nat.lt_of_lt_of_le hzW hH1.size
  have k0 := stay hH1 hKW1.c0
  have k1 := stay hH1 hKW1.c1
  have k2 := stay hH1 hKW1.c2
  have k3 := stay hH1 hKW1.c3
  have k4 := stay hH1 hKW1.c4
  have kl := Nat.lt_of_lt_of_le hKW1.lt' (Below.size hH1)
  have hIy := hIH y (.agg #[.int .u8 (y.k : Int), .int .u64 (y.n : Int), .string (str y.s), .int .u8 (y.o : Int), .slice mb y.l.length cap1]) u1 hmy (hKK1 u1 hH1) hny
  unfold RtP at hIy
  go_wp2_with (first | (go_at_call 55; ((with_reducible refine hIy.mono ?_); (rintro e y3 ⟨⟨gy, cy, rfl, hly⟩, hy3⟩); have hp2 := own_of hp1 hy3; have hH2 := tr hH1 hy3)) | (at_builtin; refine wpList_append_lies _ rfl _ _ 62 rfl w.heap.size 95 i0 _ 4 40 Tryz.underlying62 hi hz0 hz1 hz2 rfl (by decide) _ (1 + (tellF d x).length + 1) (cellsZ (T2)) rfl hp2 ⟨gy, 0, none⟩ (tellF d y).length cy (cellsZ (zs (tellF d y))) rfl ?cL ?cN ?c0 ?cP ?c1 ?c2 ?c3 _ rfl ?_))
  case cL => exact by rw [cellsZ_len, zs_len]
  case cN => exact own_cells hly
  case c0 => exact cellsZ_one _
  case cP => exact htpy
  case c1 => unfold maxLen; omega
  case c2 => omega
  case c3 => have h1 := hH2.size; have h2 := hBw.size; omega
  intro g3 cap3 u2 hown3 hgrow3 hat3 hlt3
  have hH3 : Below W.heap.size W u2 := fr_grown hH2 hgrow3 hg2
  have hg3 : W.heap.size ≤ g3 := by have h1 := hH2.size; simp only [Value.ownBlock, Option.some.injEq] at hat3; omega
  obtain ⟨T5, hT5⟩ : ∃ T5, T5 = T2 ++ zs (tellF d y) := ⟨_, rfl⟩
  have hp3 : u2.ownsRow w.heap.size 95 4 (.slice (some ⟨g3, 0, none⟩) (1 + (tellF d x).length + 1 + (tellF d y).length) cap3) (1 + (tellF d x).length + 1 + (tellF d y).length) (cellsZ T5) := by rw [hT5, cellsZ_app]; exact hown3
  have HT5 := Lib.hid hT5
  clear hT5 hown3 c4 c4l k0 k1 k2 k3 k4 kl hIy
  go_wp2_with (first | (go_at_call 84; ((with_reducible refine (sgn_any _ _).mono ?_); (rintro e y4 ⟨rfl, hy4⟩); have hp4 := own_of hp3 hy4; have hH4 := tr hH3 hy4)) | (at_builtin; refine wpList_append_lies _ rfl _ _ 62 rfl w.heap.size 95 i0 _ 4 40 Tryz.underlying62 hi hz0 hz1 hz2 rfl (by decide) _ (1 + (tellF d x).length + 1 + (tellF d y).length) (cellsZ (T5)) rfl (hp4.alloc _) ⟨y4.heap.size, 0, none⟩ 1 1 (cellsZ (zs [sg [41]])) rfl ?cL ?cN ?c0 ?cP ?c1 ?c2 ?c3 _ rfl ?_))
  case cL => exact rfl
  case cN => exact news_ok (cellsZ (zs [sg [41]])) 95 y4
  case c0 => exact cellsZ_one _
  case cP => exact by decide
  case c1 => unfold maxLen; omega
  case c2 => omega
  case c3 => have h1 := hH4.size; have h2 := hBw.size; simp; omega
  intro g4 cap4 u3 hown4 hgrow4 hat4 hlt4
  go_wp2
  go_ret
  have hH5 : Below W.heap.size W u3 := fr_grown (aB hH4 _) hgrow4 hg3
  have hlen : 1 + (tellF d x).length + 1 + (tellF d y).length + 1 = (sg [40] :: (tellF d x ++ sg (opS o) :: (tellF d y ++ [sg [41]]))).length := by simp; omega
  have hcel : cellsZ (zs (sg [40] :: (tellF d x ++ sg (opS o) :: (tellF d y ++ [sg [41]])))) = cellsZ T5 ++ cellsZ (zs [sg [41]]) := by rw [HT5.out, HT2.out, HT1.out]; simp [cellsZ, zs]
  rw [hlen] at hown4
  refine ⟨⟨g4, cap4, by rw [← hlen]; rfl, ?_⟩, hBw.trans (Below.mono hH5 hBw.size)⟩
  rw [hcel]
  exact hown4
 ·refine wpOp_step rfl (fun K hK => ?_)
  go_simp
  have hIk := hIH x (.agg #[.int .u8 (x.k : Int), .int .u64 (x.n : Int), .string (str x.s), .int .u8 (x.o : Int), .slice ma x.l.length cap0]) v12 hmx (hKK v12 hF12) hn
  unfold RtP at hIk
  go_at_call 55
  with_reducible refine hIk.mono ?_
  rintro e v16 ⟨⟨g16, c16, rfl, hl16⟩, hb16⟩
  have hF16 := tr hF12 hb16
  clear hIk
  go_simp
  refine hK _ _ ⟨hF16, ?_⟩
  clear hK K
  refine wpAnyK_one (k := 1) (by kernel_rfl) ?_
  refine wpOp_step rfl (fun K hK => ?_)
  go_simp
  obtain ⟨v17, hv17⟩ : ∃ v17, (v16.alloc (.cells #[.int .u8 4, .string ⟨#[40]⟩, .int .u64 0, .int .i64 0] 95)) = v17 := ⟨_, rfl⟩
  have hF17 : Below W.heap.size W v17 := by rw [← hv17]; exact aB hF16 _
  have ho17 : v17.ownsRow w.heap.size 95 4 (.slice (some ⟨v16.heap.size, 0, none⟩) 1 1) 1 (cellsZ (zs [sg [40]])) := by rw [← hv17]; exact own_row_new v16 (zs [sg [40]]) 1 w.heap.size rfl (Nat.le_trans hBw.size (Below.size hF16)) (by omega)
  have hz17 : v16.heap.size < v17.heap.size := by rw [← hv17]; simp
  have hl17 := own_of hl16 (show Below v16.heap.size v16 v17 by rw [← hv17]; exact aB (Below.refl _ _) _)
  rw [hv17]
  clear hv17
  refine hK _ _ ⟨hF17, ?_⟩
  clear hK K
  refine wpAnyK_one (k := 7) (by kernel_rfl) ?_
  refine wpOp_step rfl (fun K hK => ?_)
  refine step_append_lies _ rfl (.tmp 44) (.tmp 49) 62 rfl w.heap.size 95 i0 _ 4 40 Tryz.underlying62 hi hz0 hz1 hz2 rfl (by decide) (.slice (some ⟨v16.heap.size, 0, none⟩) 1 1) 1 (cellsZ (zs [sg [40]])) rfl ho17 ⟨g16, 0, none⟩ (tellF d x).length c16 (cellsZ (zs (tellF d x))) rfl (by rw [cellsZ_len, zs_len]) (own_cells hl17) (cellsZ_one _) htp (by unfold maxLen; omega) (by omega) (Nat.le_trans hBw.size (Below.size hF17)) _ rfl ?_
  intro g cap' v18 hown hgrow hat hlt
  have hF18 : Below W.heap.size W v18 := Below.grown hF17 hgrow (Below.size hF17) (fun j hj => by simp only [Value.ownBlock, Option.some.injEq] at hj; have := Below.size hF16; omega)
  go_simp
  refine hK _ _ ⟨hF18, ?_⟩
  clear hK K
  refine wpAnyK_one (k := 8) (by kernel_rfl) ?_
  refine wpOp_step rfl (fun K hK => ?_)
  go_simp
  refine hK _ _ ⟨hF18, ?_⟩
  clear hK K
  refine wpAnyK_done (by kernel_rfl) ⟨rfl, ?_⟩
  have hgW : W.heap.size ≤ g := by have h1 := Below.size hF16; have h2 := Below.size hF17; simp only [Value.ownBlock, Option.some.injEq] at hat; omega
  have hF := hF18
  have hlq : (tellF d x).length ≤ 500000 := by omega
  have hlqy : (tellF d y).length ≤ 500000 := by omega
  obtain ⟨T1, hT1⟩ : ∃ T1, T1 = zs [sg [40]] ++ zs (tellF d x) := ⟨_, rfl⟩
  have ho1 : v18.ownsRow w.heap.size 95 4 (.slice (some ⟨g, 0, none⟩) (1 + (tellF d x).length) cap') (1 + (tellF d x).length) (cellsZ T1) := by rw [hT1, cellsZ_app]; exact hown
  have HT1 := Lib.hid hT1
  clear hT1 hown
  have c3 := stay hF b3
  have c3l := Nat.lt_of_lt_of_le hzW hF.size
  go_wp2_with (first | (go_at_call 85; ((with_reducible refine (esign_any o ho256 _).mono ?_); (rintro e y1 ⟨rfl, hy1⟩); have ho2 := own_of ho1 hy1; have hG1 := tr hF hy1)) | (go_at_call 84; ((with_reducible refine (sgn_any _ _).mono ?_); (rintro e y2 ⟨rfl, hy2⟩); have ho3 := own_of ho2 hy2; have hG2 := tr hG1 hy2)) | (at_builtin; refine wpList_append_lies _ rfl _ _ 62 rfl w.heap.size 95 i0 _ 4 40 Tryz.underlying62 hi hz0 hz1 hz2 rfl (by decide) _ (1 + (tellF d x).length) (cellsZ (T1)) rfl (ho3.alloc _) ⟨y2.heap.size, 0, none⟩ 1 1 (cellsZ (zs [sg (opS o)])) rfl ?cL ?cN ?c0 ?cP ?c1 ?c2 ?c3 _ rfl ?_))
  case cL => exact rfl
  case cN => exact news_ok (cellsZ (zs [sg (opS o)])) 95 y2
  case c0 => exact cellsZ_one _
  case cP => exact by decide
  case c1 => unfold maxLen; omega
  case c2 => omega
  case c3 => have h1 := hG2.size; have h2 := hBw.size; simp; omega
  intro g2 cap2 u1 hown2 hgrow2 hat2 hlt2
  have hH1 : Below W.heap.size W u1 := fr_grown (aB hG2 _) hgrow2 hgW
  have hg2 : W.heap.size ≤ g2 := by have h1 := hG2.size; simp only [Value.ownBlock, Option.some.injEq] at hat2; omega
  obtain ⟨T2, hT2⟩ : ∃ T2, T2 = T1 ++ zs [sg (opS o)] := ⟨_, rfl⟩
  have hp1 : u1.ownsRow w.heap.size 95 4 (.slice (some ⟨g2, 0, none⟩) (1 + (tellF d x).length + 1) cap2) (1 + (tellF d x).length + 1) (cellsZ T2) := by rw [hT2, cellsZ_app]; exact hown2
  have HT2 := Lib.hid hT2
  clear hT2 hown2 c3 c3l
  have c4 := stay hH1 b4
  have c4l := Nat.lt_of_lt_of_le hzW hH1.size
  have k0 := stay hH1 hKW1.c0
  have k1 := stay hH1 hKW1.c1
  have k2 := stay hH1 hKW1.c2
  have k3 := stay hH1 hKW1.c3
  have k4 := stay hH1 hKW1.c4
  have kl := Nat.lt_of_lt_of_le hKW1.lt' (Below.size hH1)
  have hIy := hIH y (.agg #[.int .u8 (y.k : Int), .int .u64 (y.n : Int), .string (str y.s), .int .u8 (y.o : Int), .slice mb y.l.length cap1]) u1 hmy (hKK1 u1 hH1) hny
  unfold RtP at hIy
  go_wp2_with (first | (go_at_call 55; ((with_reducible refine hIy.mono ?_); (rintro e y3 ⟨⟨gy, cy, rfl, hly⟩, hy3⟩); have hp2 := own_of hp1 hy3; have hH2 := tr hH1 hy3)) | (at_builtin; refine wpList_append_lies _ rfl _ _ 62 rfl w.heap.size 95 i0 _ 4 40 Tryz.underlying62 hi hz0 hz1 hz2 rfl (by decide) _ (1 + (tellF d x).length + 1) (cellsZ (T2)) rfl hp2 ⟨gy, 0, none⟩ (tellF d y).length cy (cellsZ (zs (tellF d y))) rfl ?cL ?cN ?c0 ?cP ?c1 ?c2 ?c3 _ rfl ?_))
  case cL => exact by rw [cellsZ_len, zs_len]
  case cN => exact own_cells hly
  case c0 => exact cellsZ_one _
  case cP => exact htpy
  case c1 => unfold maxLen; omega
  case c2 => omega
  case c3 => have h1 := hH2.size; have h2 := hBw.size; omega
  intro g3 cap3 u2 hown3 hgrow3 hat3 hlt3
  have hH3 : Below W.heap.size W u2 := fr_grown hH2 hgrow3 hg2
  have hg3 : W.heap.size ≤ g3 := by have h1 := hH2.size; simp only [Value.ownBlock, Option.some.injEq] at hat3; omega
  obtain ⟨T5, hT5⟩ : ∃ T5, T5 = T2 ++ zs (tellF d y) := ⟨_, rfl⟩
  have hp3 : u2.ownsRow w.heap.size 95 4 (.slice (some ⟨g3, 0, none⟩) (1 + (tellF d x).length + 1 + (tellF d y).length) cap3) (1 + (tellF d x).length + 1 + (tellF d y).length) (cellsZ T5) := by rw [hT5, cellsZ_app]; exact hown3
  have HT5 := Lib.hid hT5
  clear hT5 hown3 c4 c4l k0 k1 k2 k3 k4 kl hIy
  go_wp2_with (first | (go_at_call 84; ((with_reducible refine (sgn_any _ _).mono ?_); (rintro e y4 ⟨rfl, hy4⟩); have hp4 := own_of hp3 hy4; have hH4 := tr hH3 hy4)) | (at_builtin; refine wpList_append_lies _ rfl _ _ 62 rfl w.heap.size 95 i0 _ 4 40 Tryz.underlying62 hi hz0 hz1 hz2 rfl (by decide) _ (1 + (tellF d x).length + 1 + (tellF d y).length) (cellsZ (T5)) rfl (hp4.alloc _) ⟨y4.heap.size, 0, none⟩ 1 1 (cellsZ (zs [sg [41]])) rfl ?cL ?cN ?c0 ?cP ?c1 ?c2 ?c3 _ rfl ?_))
  case cL => exact rfl
  case cN => exact news_ok (cellsZ (zs [sg [41]])) 95 y4
  case c0 => exact cellsZ_one _
  case cP => exact by decide
  case c1 => unfold maxLen; omega
  case c2 => omega
  case c3 => have h1 := hH4.size; have h2 := hBw.size; simp; omega
  intro g4 cap4 u3 hown4 hgrow4 hat4 hlt4
  go_wp2
  go_ret
  have hH5 : Below W.heap.size W u3 := fr_grown (aB hH4 _) hgrow4 hg3
  have hlen : 1 + (tellF d x).length + 1 + (tellF d y).length + 1 = (sg [40] :: (tellF d x ++ sg (opS o) :: (tellF d y ++ [sg [41]]))).length := by simp; omega
  have hcel : cellsZ (zs (sg [40] :: (tellF d x ++ sg (opS o) :: (tellF d y ++ [sg [41]])))) = cellsZ T5 ++ cellsZ (zs [sg [41]]) := by rw [HT5.out, HT2.out, HT1.out]; simp [cellsZ, zs]
  rw [hlen] at hown4
  refine ⟨⟨g4, cap4, by rw [← hlen]; rfl, ?_⟩, hBw.trans (Below.mono hH5 hBw.size)⟩
  rw [hcel]
  exact hown4
theorem rtell_any : ∀ d, RtellIH d := by
 intro d
 induction d with
 | zero => intro x v w h; simp [mayB] at h
 | succ d ih =>
  intro x v w hm hE hn
  unfold IsB at hE
  cases hE with
  | @mk k n s o kids ma cap h256 hkl hk =>
   rw [mayB, Bool.and_eq_true] at hm
   obtain ⟨hf, ha⟩ := hm
   rw [Xp.nodes] at hn
   rcases fit_k hf with rfl | rfl | rfl | rfl | rfl
   ·obtain ⟨rfl, rfl, hm0⟩ := fit1 hf
    obtain rfl : kids = [] := List.length_eq_zero_iff.1 hm0
    exact rt_num n ma cap w
   ·obtain ⟨rfl, hn, rfl, hm0⟩ := fit2 hf
    obtain rfl : kids = [] := List.length_eq_zero_iff.1 hm0
    exact rt_var s ma cap w
   ·obtain ⟨rfl, rfl, hoo, hm0⟩ := fit3 hf
    obtain ⟨a, b, rfl⟩ : ∃ a b, kids = [a, b] := by
     match kids, hm0 with
     | [a, b], _ => exact ⟨a, b, rfl⟩
    simp only [List.all_cons, List.all_nil, Bool.and_true, Bool.and_eq_true] at ha
    obtain ⟨blk, off, rfl⟩ := kids_some hk (by simp)
    obtain ⟨m0, c0, k0⟩ := kidIn hk 0 (by simp)
    obtain ⟨m1, c1, k1⟩ := kidIn hk 1 (by simp)
    simp only [Nat.zero_mul, Nat.add_zero, Nat.one_mul, List.getElem_cons_zero, List.getElem_cons_succ] at k0 k1
    simp only [nodesL] at hn
    exact rt_3 d ih a b ha.1 ha.2 (by omega) (by omega) o h256 blk off cap m0 c0 m1 c1 w k0 k1
   ·obtain ⟨rfl, hn, rfl, hm0⟩ := fit4 hf
    obtain rfl : kids = [] := List.length_eq_zero_iff.1 hm0
    exact rt_4 s ma cap w
   ·obtain ⟨rfl, hnm, rfl, hm0⟩ := fit5 hf
    obtain ⟨a, rfl⟩ : ∃ a, kids = [a] := by
     match kids, hm0 with
     | [a], _ => exact ⟨a, rfl⟩
    simp only [List.all_cons, List.all_nil, Bool.and_true] at ha
    obtain ⟨blk, off, rfl⟩ := kids_some hk (by simp)
    obtain ⟨m0, c0, k0⟩ := kidIn hk 0 (by simp)
    simp only [Nat.zero_mul, Nat.add_zero, List.getElem_cons_zero] at k0
    simp only [nodesL] at hn
    exact rt_5 d ih a ha (by omega) s blk off cap m0 c0 w k0
theorem rnmd_str (s : List UInt8) (hs : s.length ≤ 140737488355328) (w : World) : Calls Tryz.prog 50 #[.string (str s)] w fun e w' => e = .returned (.bool (nmdB s)) ∧ Below w.heap.size w w' := by
 have := rnmd_any (str s) (by show (str s).data.size ≤ _; simpa [str] using hs) w
 rw [str_list] at this
 exact this
theorem shape_any (k n : Nat) (s : List UInt8) (o : Nat) (ma : Option Addr) (m cap : Nat) (ho : o < 256) (hs : s.length ≤ 140737488355328) (w : World) :
 Calls Tryz.prog 155 #[.agg #[.int .u8 (k : Int), .int .u64 (n : Int), .string (str s), .int .u8 (o : Int), .slice ma m cap]] w fun e w' => e = .returned (.bool (fitB k n s o m)) ∧ Below w.heap.size w w' := by
 have hn0 := dec_beq n 0 0 rfl
 have ho0 := dec_beq o 0 0 rfl
 have hm0 := dec_beq m 0 0 rfl
 have hm1 := dec_beq m 1 1 rfl
 have hm2 := dec_beq m 2 2 rfl
 have hsE := strE s
 have hN := rnmd_str s hs
 have hS := esign_any o ho
 go_enter Tryz.func155, Tryz.ntmps155
 by_cases h1 : k = 1
 ·subst h1
  cases q1 : decide (s = []) <;> cases q2 : decide (o = 0) <;> cases q3 : decide (m = 0)
  all_goals rw [q1] at hsE
  all_goals rw [q2] at ho0
  all_goals rw [q3] at hm0
  all_goals rw [show fitB 1 n s o m = (decide (s = []) && decide (o = 0) && decide (m = 0)) from rfl, q1, q2, q3]
  all_goals clear hn0 hm1 hm2 hS
  all_goals go_wp2_with (first | (go_at_call 50; ((with_reducible refine (hN _).mono ?_); (rintro e w1 ⟨rfl, hb⟩); obtain ⟨hc, hf⟩ := bcell hb; have hz := hz1 hb)) | (go_at_call 85; ((with_reducible refine (hS _).mono ?_); (rintro e w2 ⟨rfl, hb2⟩); obtain ⟨hc2, hf2⟩ := bcell hb2; have hz2 : w.heap.size < w2.heap.size := Nat.lt_of_lt_of_le hz hb2.size)))
  all_goals go_ret
  all_goals exact ⟨rfl, tr (aB (Below.refl _ _) _) hb⟩
 by_cases h2 : k = 2
 ·subst h2
  cases q1 : decide (n = 0) <;> cases q4 : nmdB s <;> cases q2 : decide (o = 0) <;> cases q3 : decide (m = 0)
  all_goals rw [q1] at hn0
  all_goals rw [q2] at ho0
  all_goals rw [q3] at hm0
  all_goals rw [show fitB 2 n s o m = (decide (n = 0) && nmdB s && decide (o = 0) && decide (m = 0)) from rfl, q1, q4, q2, q3]
  all_goals rw [q4] at hN
  all_goals clear hm1 hm2 hS h1
  all_goals go_wp2_with (first | (go_at_call 50; ((with_reducible refine (hN _).mono ?_); (rintro e w1 ⟨rfl, hb⟩); obtain ⟨hc, hf⟩ := bcell hb; have hz := hz1 hb)) | (go_at_call 85; ((with_reducible refine (hS _).mono ?_); (rintro e w2 ⟨rfl, hb2⟩); obtain ⟨hc2, hf2⟩ := bcell hb2; have hz2 : w.heap.size < w2.heap.size := Nat.lt_of_lt_of_le hz hb2.size)))
  all_goals go_ret
  all_goals exact ⟨rfl, tr (aB (Below.refl _ _) _) hb⟩
 by_cases h4 : k = 4
 ·subst h4
  cases q1 : decide (n = 0) <;> cases q4 : nmdB s <;> cases q2 : decide (o = 0) <;> cases q3 : decide (m = 0)
  all_goals rw [q1] at hn0
  all_goals rw [q2] at ho0
  all_goals rw [q3] at hm0
  all_goals rw [show fitB 4 n s o m = (decide (n = 0) && nmdB s && decide (o = 0) && decide (m = 0)) from rfl, q1, q4, q2, q3]
  all_goals rw [q4] at hN
  all_goals clear hm1 hm2 hS h1 h2
  all_goals go_wp2_with (first | (go_at_call 50; ((with_reducible refine (hN _).mono ?_); (rintro e w1 ⟨rfl, hb⟩); obtain ⟨hc, hf⟩ := bcell hb; have hz := hz1 hb)) | (go_at_call 85; ((with_reducible refine (hS _).mono ?_); (rintro e w2 ⟨rfl, hb2⟩); obtain ⟨hc2, hf2⟩ := bcell hb2; have hz2 : w.heap.size < w2.heap.size := Nat.lt_of_lt_of_le hz hb2.size)))
  all_goals go_ret
  all_goals exact ⟨rfl, tr (aB (Below.refl _ _) _) hb⟩
 by_cases h5 : k = 5
 ·subst h5
  cases q1 : decide (n = 0) <;> cases q4 : nmdB s <;> cases q2 : decide (o = 0) <;> cases q3 : decide (m = 1)
  all_goals rw [q1] at hn0
  all_goals rw [q2] at ho0
  all_goals rw [q3] at hm1
  all_goals rw [show fitB 5 n s o m = (decide (n = 0) && nmdB s && decide (o = 0) && decide (m = 1)) from rfl, q1, q4, q2, q3]
  all_goals rw [q4] at hN
  all_goals clear hm0 hm2 hS h1 h2 h4
  all_goals go_wp2_with (first | (go_at_call 50; ((with_reducible refine (hN _).mono ?_); (rintro e w1 ⟨rfl, hb⟩); obtain ⟨hc, hf⟩ := bcell hb; have hz := hz1 hb)) | (go_at_call 85; ((with_reducible refine (hS _).mono ?_); (rintro e w2 ⟨rfl, hb2⟩); obtain ⟨hc2, hf2⟩ := bcell hb2; have hz2 : w.heap.size < w2.heap.size := Nat.lt_of_lt_of_le hz hb2.size)))
  all_goals go_ret
  all_goals exact ⟨rfl, tr (aB (Below.refl _ _) _) hb⟩
 have hoE := strE (opS o)
 by_cases h3 : k = 3
 ·subst h3
  have hd : decide (opS o ≠ []) = !decide (opS o = []) := by simp
  cases q1 : decide (n = 0) <;> cases q2 : decide (s = []) <;> cases q4 : decide (opS o = []) <;> cases q3 : decide (m = 2)
  all_goals rw [q1] at hn0
  all_goals rw [q2] at hsE
  all_goals rw [q4] at hoE
  all_goals rw [q3] at hm2
  all_goals rw [show fitB 3 n s o m = (decide (n = 0) && decide (s = []) && decide (opS o ≠ []) && decide (m = 2)) from rfl, hd, q1, q2, q4, q3]
  all_goals clear hm0 hm1 h1 h2 h4 h5 hd ho0
  all_goals go_wp2_with (first | (go_at_call 50; ((with_reducible refine (hN _).mono ?_); (rintro e w1 ⟨rfl, hb⟩); obtain ⟨hc, hf⟩ := bcell hb; have hz := hz1 hb)) | (go_at_call 85; ((with_reducible refine (hS _).mono ?_); (rintro e w2 ⟨rfl, hb2⟩); obtain ⟨hc2, hf2⟩ := bcell hb2; have hz2 : w.heap.size < w2.heap.size := Nat.lt_of_lt_of_le hz hb2.size)))
  all_goals go_ret
  all_goals first | exact ⟨rfl, tr (tr (aB (Below.refl _ _) _) hb) hb2⟩ | exact ⟨rfl, tr (aB (Below.refl _ _) _) hb⟩
 ·have g1 := ne_beq h1
  have g2 := ne_beq h2
  have g3 := ne_beq h3
  have g4 := ne_beq h4
  have g5 := ne_beq h5
  have hF : fitB k n s o m = false := by unfold fitB; rw [if_neg h1, if_neg (by omega), if_neg h5, if_neg h3]
  rw [hF]
  clear hF h1 h2 h3 h4 h5 hn0 ho0 hm0 hm1 hm2 hsE hoE hS
  simp only [Int.ofNat_one] at g1
  go_wp2_with (go_at_call 50; ((with_reducible refine (hN _).mono ?_); (rintro e w1 ⟨rfl, hb⟩); obtain ⟨hc, hf⟩ := bcell hb; have hz := hz1 hb))
  go_ret
  exact ⟨rfl, tr (aB (Below.refl _ _) _) hb⟩
theorem rmay_any : ∀ (d : Nat) (G : Nat → Prop) (e : Xp) (v : Value) (w : World), d ≤ 40 → IsE G w v e → e.sb 140737488355328 →
 Calls Tryz.prog 127 #[v, .int .i64 (41 - (d : Int))] w fun r w' => r = .returned (.bool (mayB d e)) ∧ Below w.heap.size w w' := by
 intro d
 induction d with
 | zero =>
  intro G e v w _ hE hsb
  cases hE with
  | mk ho hl hk =>
   rw [show ∀ x, mayB 0 x = false from fun _ => rfl]
   go_enter Tryz.func127, Tryz.ntmps127
   go_wp2
   go_ret
   exact ⟨rfl, aB (Below.refl _ _) _⟩
 | succ d ih =>
  intro G e v w hd hE hsb
  cases hE with
  | @mk k n s o l ma cap ho hl hk =>
   have hF := shape_any k n s o ma l.length cap ho (sb_s hsb)
   have hsl : sbL 140737488355328 l := sb_l hsb
   have HSL := Lib.hid hsl
   clear hsb hsl
   have hw : IntKind.i64.wrap ((41 - ((d + 1 : Nat) : Int)) + 1) = 41 - (d : Int) := by rw [IntKind.wrap_i64]; omega
   have hd0 : ¬ (40 : Int) < 41 - ((d + 1 : Nat) : Int) := by omega
   obtain ⟨D, hD⟩ : ∃ D : Int, D = 41 - ((d + 1 : Nat) : Int) := ⟨_, rfl⟩
   rw [← hD] at hw hd0 ⊢
   cases hf : fitB k n s o l.length with
   | false =>
    rw [show mayB (d + 1) (.mk k n s o l) = (fitB k n s o l.length && l.all (mayB d)) from rfl, hf, Bool.false_and]
    rw [hf] at hF
    clear ih hD
    go_enter Tryz.func127, Tryz.ntmps127
    go_wp2_with (go_at_call 155; ((with_reducible refine (hF _).mono ?_); (rintro e w1 ⟨rfl, hb⟩)))
    go_ret
    exact ⟨rfl, tr (aB (Below.refl _ _) _) hb⟩
   | true =>
    rw [show mayB (d + 1) (.mk k n s o l) = (fitB k n s o l.length && l.all (mayB d)) from rfl, hf, Bool.true_and]
    rw [hf] at hF
    have HIH := Lib.hid ih
    have HK := Lib.hid hk
    obtain ⟨N, hN⟩ : ∃ N, N = l.length := ⟨_, rfl⟩
    rw [← hN] at hF hl ⊢
    have HN := Lib.hid hN
    have HD := Lib.hid hd
    clear ih hD hk hf hN hd
    go_enter Tryz.func127, Tryz.ntmps127
    go_wp2_with (go_at_call 155; ((with_reducible refine (hF _).mono ?_); (rintro e w1 ⟨rfl, hb⟩); obtain ⟨hc, hf⟩ := bcell hb; have hz := hz1 hb))
    clear hF
    have hB1 : Below w.heap.size w w1 := tr (aB (Below.refl _ _) _) hb
    have b4 : w1.cell? ⟨w.heap.size, 4, none⟩ = some (.slice ma N cap) := (rowG_b (rowG_at #[.int .u8 (k : Int), .int .u64 (n : Int), .string (str s), .int .u8 (o : Int), .slice ma N cap] 47 w _ rfl) hb).1 4 (by simp)
    clear hb hc hf
    go_loopw [5] (fun i wr => ∃ k : Nat, k ≤ N ∧ i = .int .i64 (k : Int) ∧ Hid ((l.take k).all (mayB d) = true) ∧ Below w1.heap.size w1 wr) (fun i _ => N - (intOf i).toNat)
    case atStart => exact ⟨0, Nat.zero_le _, rfl, Lib.hid (by simp), Below.refl _ _⟩
    case round =>
     obtain ⟨j, hj, rfl, hall, hB⟩ := hrel
     have a4 := stay hB b4
     have hzr : w.heap.size < wr.heap.size := Nat.lt_of_lt_of_le hz hB.size
     have hBw : Below w.heap.size w wr := tr hB1 hB
     by_cases hlt : j < N
     ·have hlt' : j < l.length := by rw [← HN.out]; exact hlt
      obtain ⟨b, off, rfl⟩ := kids_some HK.out (by omega)
      obtain ⟨ma', cap', c0, c1, c2, c3, c4, hE'⟩ := (kids_at l b off HK.out j hlt').isE
      have hbl := World.block_lt_of_cell? w _ c0
      have q0 := stay hBw c0
      have q1 := stay hBw c1
      have q2 := stay hBw c2
      have q3 := stay hBw c3
      have q4 := stay hBw c4
      have hbl' : b < wr.heap.size := Nat.lt_of_lt_of_le hbl hBw.size
      have hI := HIH.out G l[j] _ wr (by have := HD.out; omega) (hE'.of hBw) (sbL_iff.1 HSL.out _ (List.getElem_mem hlt'))
      clear hE' c0 c1 c2 c3 c4
      cases hp : mayB d l[j] with
      | false =>
       rw [hp] at hI
       have hA := Lib.hid (all_no hlt' hp)
       clear hp
       go_wp2_with (go_at_call 127; ((with_reducible refine hI.mono ?_); (rintro e w2 ⟨rfl, hb2⟩)))
       go_ret
       exact ⟨by rw [hA.out]; rfl, tr hBw hb2⟩
      | true =>
       rw [hp] at hI
       have hA := Lib.hid (all_take hlt' hall.out hp)
       clear hp
       go_wp2_with (go_at_call 127; ((with_reducible refine hI.mono ?_); (rintro e w2 ⟨rfl, hb2⟩)))
       go_roundw
       case rel => exact ⟨j + 1, by omega, by go_num, hA, tr hB hb2⟩
       case measure => simp [intOf]; omega
     ·obtain rfl : j = N := by omega
      have hA := Lib.hid hall.out
      go_wp2
      go_ret
      exact ⟨by rw [← hA.out, List.take_of_length_le (by rw [HN.out]; exact Nat.le_refl _)]; rfl, hBw⟩
theorem rMay_any (G : Nat → Prop) (e : Xp) (v : Value) (w : World) (hE : IsE G w v e) (hs : e.sb 140737488355328) :
 Calls Tryz.prog 80 #[v] w fun r w' => r = .returned (.bool (mayB 40 e)) ∧ Below w.heap.size w w' := by
 have hM : ∀ o, Calls Tryz.prog 127 #[v, .int .i64 1] (w.alloc o) fun r w' => r = .returned (.bool (mayB 40 e)) ∧ Below (w.alloc o).heap.size (w.alloc o) w' := fun o => rmay_any 40 G e v (w.alloc o) (by omega) (hE.of (aB (Below.refl _ _) _)) hs
 cases hE with
 | @mk k n s o l ma cap ho hl hk =>
  generalize mayB 40 (.mk k n s o l) = c at hM
  clear hk hs
  go_enter Tryz.func80, Tryz.ntmps80
  go_wp2_with (go_at_call 127; ((with_reducible refine (hM _).mono ?_); (rintro e w1 ⟨rfl, hb⟩)))
  go_ret
  exact ⟨rfl, tr (aB (Below.refl _ _) _) hb⟩
end Go.Proofs.YtfbjljcmmbdhkaaGreatDoor
