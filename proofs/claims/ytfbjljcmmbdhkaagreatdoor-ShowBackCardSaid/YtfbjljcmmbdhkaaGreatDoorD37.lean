/- Contracts of the reader of programs: an expression. -/
import Derived.Test.YtfbjljcmmbdhkaaGreatDoorD19
import Derived.Test.YtfbjljcmmbdhkaaGreatDoorD35
namespace Go.Proofs.YtfbjljcmmbdhkaaGreatDoor
set_option linter.unusedVariables false
set_option linter.unusedSimpArgs false
set_option maxRecDepth 100000
set_option maxHeartbeats 200000000
open Go.ChangeShapes Go.WideShapes Go.ChangeAt Go.RowKit
def VX (w w' : World) (u : Value) (x : Xp) : Prop := IsE (fun b => w.heap.size ≤ b ∧ b < w'.heap.size) w' u x
theorem IsRs.newer {w w1 w2 : World} {rb mb : Nat} {v : Value} {T : List (Tk × Int)} {p d n p' d' n' : Nat} (h0 : IsRs w rb mb v T p d n) (h : IsRs w1 rb mb v T p' d' n') (ho : Only (fun j => w.heap.size ≤ j) w1 w2) : IsRs w2 rb mb v T p' d' n' :=
 h.only ho (fun e => by have := h0.rl; omega) (fun j hj e => by have := h0.row.ob_lt hj; omega) (fun e => by have := h0.ml; omega) (fun j hj e => by have := h0.tb.lt hj; omega)
theorem zQi {S : Nat → Prop} {w w' : World} (h : Only S w w') (b o : Nat) (x : Value) (hs : S b) : Only S w (w'.setCell ⟨b, o, none⟩ x) := h.setCell hs
theorem yJj {C : Array Value} {w : World} {k : Nat} (hs : C.size = 5) (c0 c1 c2 c3 c4 : Value) (h : rowG C w k) : rowG #[c0, c1, c2, c3, c4] (((((w.setCell ⟨k, 0, none⟩ c0).setCell ⟨k, 1, none⟩ c1).setCell ⟨k, 2, none⟩ c2).setCell ⟨k, 3, none⟩ c3).setCell ⟨k, 4, none⟩ c4) k := by
 obtain ⟨l⟩ := C
 match l, hs with
 | [x0, x1, x2, x3, x4], _ =>
  have := zZe (i := 4) (by simp) c4 (zZe (i := 3) (by simp) c3 (zZe (i := 2) (by simp) c2 (zZe (i := 1) (by simp) c1 (zZe (i := 0) (by simp) c0 h))))
  simpa using this
theorem tell_no5 : ∀ (d : Nat) (x : Xp), mayB d x = true → ∀ t ∈ zQw d x, t.k ≠ 5 := by
 intro d
 induction d with
 | zero => intro x h; simp [mayB] at h
 | succ d ih =>
  intro x h t ht
  obtain ⟨k, n, s, o, l⟩ := x
  rw [mayB, Bool.and_eq_true] at h
  obtain ⟨hf, hl⟩ := h
  have hal := List.all_eq_true.1 hl
  have hg : ∀ i, i < l.length → ∀ t ∈ zQw d (l.getD i x0), t.k ≠ 5 := fun i hi t ht => ih _ (by rw [List.getD_eq_getElem?_getD, List.getElem?_eq_getElem hi]; exact hal _ (List.getElem_mem hi)) t ht
  rcases xQu hf with rfl | rfl | rfl | rfl | rfl
  ·simp [zQw] at ht; subst ht; simp
  ·simp [zQw] at ht; subst ht; simp [nmT]
  ·obtain ⟨rfl, rfl, ho, hm⟩ := fit3 hf
   have e : zQw (d + 1) (.mk 3 0 [] o l) = sg [40] :: (zQw d (l.getD 0 x0) ++ sg (opS o) :: (zQw d (l.getD 1 x0) ++ [sg [41]])) := rfl
   rw [e] at ht
   simp only [List.mem_cons, List.mem_append] at ht
   rcases ht with rfl | ht | rfl | ht | rfl | ht
   ·simp [sg]
   ·exact hg 0 (by omega) t ht
   ·simp [sg]
   ·exact hg 1 (by omega) t ht
   ·simp [sg]
   ·cases ht
  ·simp [zQw] at ht; rcases ht with rfl | rfl <;> simp [nmT, sg]
  ·obtain ⟨rfl, hn, rfl, hm⟩ := fit5 hf
   have e : zQw (d + 1) (.mk 5 0 s 0 l) = nmT s :: sg [91] :: (zQw d (l.getD 0 x0) ++ [sg [93]]) := rfl
   rw [e] at ht
   simp only [List.mem_cons, List.mem_append] at ht
   rcases ht with rfl | rfl | ht | rfl | ht
   ·simp [nmT]
   ·simp [sg]
   ·exact hg 0 (by omega) t ht
   ·simp [sg]
   ·cases ht
theorem rdE_fin {T : List (Tk × Int)} (hl : T.length ≤ 16385) (hfin : ∃ a, T[T.length - 1]? = some (⟨5, [], 0⟩, a)) {p q : Nat} {x : Xp} (h : rdE 40 (zQb T) p = .ok x q) : q < T.length := by
 obtain ⟨h1, h2, h3, h4⟩ := yJp _ _ _ _ _ h
 have hL : (zQb T).length = T.length := by simp [zQb]
 rcases Nat.lt_or_ge q T.length with hq | hq
 ·exact hq
 ·exfalso
  have hq' : q = T.length := by omega
  obtain ⟨a, ha⟩ := hfin
  have hlast : (zQb T)[T.length - 1]? = some ⟨5, [], 0⟩ := by unfold zQb; rw [List.getElem?_map, ha]; rfl
  have hm : (⟨5, [], 0⟩ : Tk) ∈ zQw 40 x := by
   rw [← h4]
   refine List.mem_of_getElem? (i := T.length - 1 - p) ?_
   rw [List.getElem?_take, if_pos (by omega), List.getElem?_drop, show p + (T.length - 1 - p) = T.length - 1 by omega]
   exact hlast
  exact tell_no5 40 x h1 _ hm rfl
theorem expr_m {w : World} {rb mb : Nat} {v : Value} {T : List (Tk × Int)} {p d n : Nat} :
 (∀ (h : IsRs w rb mb v T p d n) (c q : Nat) (hR : rdE 40 (zQb T) p = .er c q), Calls Tryz.prog 141 #[.pointer (some ⟨rb, 0, none⟩)] w (RP VX w rb mb v T d (.er c q))) ∧
 (∀ (h : IsRs w rb mb v T p d n) (x : Xp) (q : Nat) (hR : rdE 40 (zQb T) p = .ok x q), Calls Tryz.prog 141 #[.pointer (some ⟨rb, 0, none⟩)] w (RP VX w rb mb v T d (.ok x q n))) := by
 refine ⟨(@fun h c q hR => have k1 : Nat := 0; ?_), (@fun h x q hR => have k2 : Nat := 0; ?_)⟩
 all_goals
  first
  | (replace k1 := k1
     have hRd : ∀ W, Below w.heap.size w W → Calls Tryz.prog 161 #[v, .int .i64 (p : Int)] W fun e w' => e = .returned (.tuple #[zX, .int .i64 0, .iface 115 (.agg #[.int .i64 (zJw T (q : Int)), .int .i64 (c : Int)])]) ∧ Below W.heap.size W w' := fun W hB => by
      have hr := h.of hB
      have := xJv hr.row (by have := hr.len; omega) hr.tb p (by have := hr.lt; have := hr.len; omega)
      rw [hR] at this
      exact this)
  | (replace k2 := k2
     have hRd : ∀ W, Below w.heap.size w W → Calls Tryz.prog 161 #[v, .int .i64 (p : Int)] W fun e w' => (∃ (k nn : Int) (s : ByteArray) (o : Int) (mk : Option Addr) (m cap : Nat), e = .returned (.tuple #[.agg #[.int .u8 k, .int .u64 nn, .string s, .int .u8 o, .slice mk m cap], .int .i64 (q : Int), .nilIface]) ∧ IsE (fun b => W.heap.size ≤ b ∧ b < w'.heap.size) w' (.agg #[.int .u8 k, .int .u64 nn, .string s, .int .u8 o, .slice mk m cap]) x) ∧ Below W.heap.size W w' := fun W hB => by
      have hr := h.of hB
      have := xJv hr.row (by have := hr.len; omega) hr.tb p (by have := hr.lt; have := hr.len; omega)
      rw [hR] at this
      exact this
     have hq := rdE_fin h.len h.fin hR)
  have c0 := h.c0
  have c1 := h.c1
  first
  | (replace k1 := k1)
  | (replace k2 := k2
     have hf := h.f)
  have hrl := h.rl
  first
  | (replace k1 := k1
     have hE : ∀ w', Below w.heap.size w w' → RP VX w rb mb v T d (.er c q) (Flt T c q) w' := fun w' hB => .er (zQd hB)
     unfold Flt zX at *)
  | (replace k2 := k2
     have HH := Lib.hid h)
  clear h hR
  go_enter Tryz.func141, Tryz.ntmps141
  go_wp2
  have hFi : ∀ w', Below w.heap.size w w' → w'.cell? ⟨rb, 0, none⟩ = some v ∧ w'.cell? ⟨rb, 1, none⟩ = some (.int .i64 (p : Int)) ∧ rb < w'.heap.size := fun w' hB => ⟨stay hB c0, stay hB c1, Nat.lt_of_lt_of_le hrl hB.size⟩
  first
  | (replace k1 := k1)
  | (replace k2 := k2
     have hFf : ∀ w', Below w.heap.size w w' → ∀ k, w'.frozen? ⟨rb, k, none⟩ = false := fun w' hB k => (hB.frozen (p := ⟨rb, k, none⟩) hrl).trans (hf k))
  have hF0 : Below w.heap.size w (w.alloc (.cells #[.int .u8 0, .int .u64 0, .string ⟨#[]⟩, .int .u8 0, .slice none 0 0] 47)).drew := bdN (aB (Below.refl _ _) _) 1
  have hFB : Below w.heap.size w ((w.alloc (.cells #[.int .u8 0, .int .u64 0, .string ⟨#[]⟩, .int .u8 0, .slice none 0 0] 47)).alloc (.cells #[.int .u8 0, .int .u64 0, .string ⟨#[]⟩, .int .u8 0, .slice none 0 0] 47)).drew := bdN (aB (aB (Below.refl _ _) _) _) 1
  refine zKp (fun w' => Below w.heap.size w w') (by kernel_rfl) ?_
  have q9 : Pq [0, 1, 2, 3, 4, 5, 6, 7] := trivial
  iterate 8
   refine tkK q9 rfl (by kernel_rfl) (fun _ _ _ _ h => h) hF0 fun K hK => ?_
   replace q9 := q9.tl
   apply Exists.intro
   refine ⟨Or.inl ⟨by kernel_rfl, fun w' hf => ?_⟩, ?_⟩
   ·obtain ⟨k0, k1, kl⟩ := hFi _ hf
    go_simp
    try exact rfl
   go_simp
   refine hK _ ?_
   clear hK K
  refine zKv (k1 := 8) (k2 := 13) (by kernel_rfl) ?_ ?_
  ·refine wpOp_step rfl (fun K hK => ?_)
   go_simp
   go_at_call 161
   with_reducible refine (hRd _ hF0).mono ?_
   first
   | (replace k1 := k1
      rintro e w1 ⟨rfl, hb0⟩)
   | (replace k2 := k2
      rintro e w1 ⟨⟨k, nn, s, o, mk, m, cap, rfl, hE⟩, hb0⟩)
   have hb1 := hF0.trans (hb0.mono hF0.size)
   first
   | (replace k1 := k1)
   | (replace k2 := k2
      have hrs := zQh (X := (w.alloc (.cells #[.int .u8 0, .int .u64 0, .string ⟨#[]⟩, .int .u8 0, .slice none 0 0] 47)).drew) ((zQf #[.int .u8 0, .int .u64 0, .string ⟨#[]⟩, .int .u8 0, .slice none 0 0] 47 w w.heap.size rfl)) hb0
      have z0 := hrs.1 0 (by simp)
      have z1 := hrs.1 1 (by simp)
      have z2 := hrs.1 2 (by simp)
      have z3 := hrs.1 3 (by simp)
      have z4 := hrs.1 4 (by simp)
      have zf := hrs.2.1
      have zl := hrs.2.2)
   refine hK _ _ ⟨hb1, ?_⟩
   clear hK K
   have q9 : Pq [9, 10, 11, 12] := trivial
   iterate 4
    refine tkK q9 rfl (by kernel_rfl) (fun _ _ _ _ h => h) hb1 fun K hK => ?_
    replace q9 := q9.tl
    apply Exists.intro
    refine ⟨Or.inl ⟨by kernel_rfl, fun w' hf => ?_⟩, ?_⟩
    ·obtain ⟨k0, k1, kl⟩ := hFi _ hf
     go_simp
     try exact rfl
    go_simp
    refine hK _ ?_
    clear hK K
   refine zQe (k := 13) (by kernel_rfl) ?_
   refine wpOp_step rfl (fun K hK => ?_)
   go_simp
   refine hK _ _ ⟨(aB hb1 _), ?_⟩
   clear hK K
   refine zQe (k := 14) (by kernel_rfl) ?_
   refine wpOp_step rfl (fun K hK => ?_)
   go_simp
   refine hK _ _ ⟨(aB hb1 _), ?_⟩
   clear hK K
   have q9 : Pq [15, 16] := trivial
   iterate 2
    refine tkK q9 rfl (by kernel_rfl) (fun _ _ _ _ h => h) (aB hb1 _) fun K hK => ?_
    replace q9 := q9.tl
    apply Exists.intro
    refine ⟨Or.inl ⟨by kernel_rfl, fun w' hf => ?_⟩, ?_⟩
    ·obtain ⟨k0, k1, kl⟩ := hFi _ hf
     go_simp
     try exact rfl
    go_simp
    refine hK _ ?_
    clear hK K
   refine zQq (by kernel_rfl) ?_
   first
   | (replace k1 := k1)
   | (replace k2 := k2
      have hB2 : Below w.heap.size w (w1.alloc (.cells #[.int .u8 k, .int .u64 nn, .string s, .int .u8 o, .slice mk m cap] 47)) := aB hb1 _
      have hX := zQf #[.int .u8 k, .int .u64 nn, .string s, .int .u8 o, .slice mk m cap] 47 w1 w1.heap.size rfl
      have hgl : w.heap.size < w1.heap.size := (by have := hb0.size; simp at this; omega)
      have hS := zQj hrs (.cells #[.int .u8 k, .int .u64 nn, .string s, .int .u8 o, .slice mk m cap] 47)
      have hE2 := hE.of (aB (Below.refl _ _) (.cells #[.int .u8 k, .int .u64 nn, .string s, .int .u8 o, .slice mk m cap] 47))
      have hsz : w1.heap.size ≤ (w1.alloc (.cells #[.int .u8 k, .int .u64 nn, .string s, .int .u8 o, .slice mk m cap] 47)).heap.size := by simp
      obtain ⟨W2, hW2⟩ : ∃ W, w1.alloc (.cells #[.int .u8 k, .int .u64 nn, .string s, .int .u8 o, .slice mk m cap] 47) = W := ⟨_, rfl⟩
      rw [hW2] at hB2 hX hS hE2 hsz ⊢
      clear hW2
      obtain ⟨d0, d1, dl⟩ := hFi _ hB2
      have df := hFf _ hB2
      have u0 := hX.1 0 (by simp)
      have u1 := hX.1 1 (by simp)
      have u2 := hX.1 2 (by simp)
      have u3 := hX.1 3 (by simp)
      have u4 := hX.1 4 (by simp)
      have r0 := hS.1 0 (by simp)
      have r1 := hS.1 1 (by simp)
      have r2 := hS.1 2 (by simp)
      have r3 := hS.1 3 (by simp)
      have r4 := hS.1 4 (by simp)
      have rf := hS.2.1
      have rl := hS.2.2
      have ul := hX.2.2
      clear hRd hFi hFf hF0 hFB)
   go_wp2
   first
   | (replace k1 := k1
      exact ⟨rfl, hE _ (aB hb1 _)⟩)
   | (replace k2 := k2
      have hRs := (HH.out.of hB2).setP hq
      have hOn : Only (fun j => w.heap.size ≤ j) (W2.setCell ⟨rb, 1, none⟩ (.int .i64 (q : Int))) ((((((W2.setCell ⟨rb, 1, none⟩ (.int .i64 (q : Int))).setCell ⟨w.heap.size, 0, none⟩ (.int .u8 k)).setCell ⟨w.heap.size, 1, none⟩ (.int .u64 nn)).setCell ⟨w.heap.size, 2, none⟩ (.string s)).setCell ⟨w.heap.size, 3, none⟩ (.int .u8 o)).setCell ⟨w.heap.size, 4, none⟩ (.slice mk m cap)) := zQi (zQi (zQi (zQi (zQi (Only.refl _ _) _ _ _ (Nat.le_refl _)) _ _ _ (Nat.le_refl _)) _ _ _ (Nat.le_refl _)) _ _ _ (Nat.le_refl _)) _ _ _ (Nat.le_refl _)
      have hE3 := hE2.only (w' := (((((W2.setCell ⟨rb, 1, none⟩ (.int .i64 (q : Int))).setCell ⟨w.heap.size, 0, none⟩ (.int .u8 k)).setCell ⟨w.heap.size, 1, none⟩ (.int .u64 nn)).setCell ⟨w.heap.size, 2, none⟩ (.string s)).setCell ⟨w.heap.size, 3, none⟩ (.int .u8 o)).setCell ⟨w.heap.size, 4, none⟩ (.slice mk m cap)) (S := fun j => j = rb ∨ j = w.heap.size) (zQi (zQi (zQi (zQi (zQi (zQi (Only.refl _ _) _ _ _ (.inl rfl)) _ _ _ (.inr rfl)) _ _ _ (.inr rfl)) _ _ _ (.inr rfl)) _ _ _ (.inr rfl)) _ _ _ (.inr rfl)) (fun b hb e => by have := hb.1; simp at this; omega)
      refine bodyPost_ret (xJu rfl _ _ w.heap.size _ _ _ _ _ rfl (yJj rfl _ _ _ _ _ (zQm _ hS (by omega)))) rfl ?_
      exact .ok ((os1 (ob1 rb hB2) _ _).old hOn (fun j hj => .inr hj)) (HH.out.newer hRs hOn) (hE3.mono (fun b hb => ⟨by have := hb.1; simp at this; omega, by have := hb.2; simp only [World.size_setCell]; omega⟩)))
  ·refine wpOp_step rfl (fun K hK => ?_)
   go_simp
   refine hK _ _ ⟨hFB, ?_⟩
   clear hK K
   refine zQe (k := 8) (by kernel_rfl) ?_
   refine wpOp_step rfl (fun K hK => ?_)
   go_simp
   go_at_call 161
   with_reducible refine (hRd _ hFB).mono ?_
   first
   | (replace k1 := k1
      rintro e w1 ⟨rfl, hb0⟩)
   | (replace k2 := k2
      rintro e w1 ⟨⟨k, nn, s, o, mk, m, cap, rfl, hE⟩, hb0⟩)
   have hb1 := hFB.trans (hb0.mono hFB.size)
   have hrw := zQh (X := ((w.alloc (.cells #[.int .u8 0, .int .u64 0, .string ⟨#[]⟩, .int .u8 0, .slice none 0 0] 47)).alloc (.cells #[.int .u8 0, .int .u64 0, .string ⟨#[]⟩, .int .u8 0, .slice none 0 0] 47)).drew) (zQf #[.int .u8 0, .int .u64 0, .string ⟨#[]⟩, .int .u8 0, .slice none 0 0] 47 (w.alloc (.cells #[.int .u8 0, .int .u64 0, .string ⟨#[]⟩, .int .u8 0, .slice none 0 0] 47)) (w.heap.size + 1) (by simp)) hb0
   have y0 := hrw.1 0 (by simp)
   have y1 := hrw.1 1 (by simp)
   have y2 := hrw.1 2 (by simp)
   have y3 := hrw.1 3 (by simp)
   have y4 := hrw.1 4 (by simp)
   have yf := hrw.2.1
   have yl := hrw.2.2
   first
   | (replace k1 := k1)
   | (replace k2 := k2
      have hrs := zQh (X := ((w.alloc (.cells #[.int .u8 0, .int .u64 0, .string ⟨#[]⟩, .int .u8 0, .slice none 0 0] 47)).alloc (.cells #[.int .u8 0, .int .u64 0, .string ⟨#[]⟩, .int .u8 0, .slice none 0 0] 47)).drew) (zQj (zQf #[.int .u8 0, .int .u64 0, .string ⟨#[]⟩, .int .u8 0, .slice none 0 0] 47 w w.heap.size rfl) _) hb0
      have z0 := hrs.1 0 (by simp)
      have z1 := hrs.1 1 (by simp)
      have z2 := hrs.1 2 (by simp)
      have z3 := hrs.1 3 (by simp)
      have z4 := hrs.1 4 (by simp)
      have zf := hrs.2.1
      have zl := hrs.2.2)
   refine hK _ _ ⟨hb1, ?_⟩
   clear hK K
   have q9 : Pq [9, 10, 11, 12] := trivial
   iterate 4
    refine tkK q9 rfl (by kernel_rfl) (fun _ _ _ _ h => h) hb1 fun K hK => ?_
    replace q9 := q9.tl
    apply Exists.intro
    refine ⟨Or.inl ⟨by kernel_rfl, fun w' hf => ?_⟩, ?_⟩
    ·obtain ⟨k0, k1, kl⟩ := hFi _ hf
     go_simp
     try exact rfl
    go_simp
    refine hK _ ?_
    clear hK K
   refine zQe (k := 14) (by kernel_rfl) ?_
   refine wpOp_step rfl (fun K hK => ?_)
   go_simp
   refine hK _ _ ⟨((((((hb1.setCell (by simp) _).setCell (by simp) _).setCell (by simp) _).setCell (by simp) _).setCell (by simp) _)), ?_⟩
   clear hK K
   have q9 : Pq [15, 16] := trivial
   iterate 2
    refine tkK q9 rfl (by kernel_rfl) (fun _ _ _ _ h => h) ((((((hb1.setCell (by simp) _).setCell (by simp) _).setCell (by simp) _).setCell (by simp) _).setCell (by simp) _)) fun K hK => ?_
    replace q9 := q9.tl
    apply Exists.intro
    refine ⟨Or.inl ⟨by kernel_rfl, fun w' hf => ?_⟩, ?_⟩
    ·obtain ⟨k0, k1, kl⟩ := hFi _ hf
     go_simp
     try exact rfl
    go_simp
    refine hK _ ?_
    clear hK K
   refine zQq (by kernel_rfl) ?_
   first
   | (replace k1 := k1)
   | (replace k2 := k2
      have hB2 : Below w.heap.size w ((((((w1.setCell ⟨w.heap.size + 1, 0, none⟩ (.int .u8 k)).setCell ⟨w.heap.size + 1, 1, none⟩ (.int .u64 nn)).setCell ⟨w.heap.size + 1, 2, none⟩ (.string s)).setCell ⟨w.heap.size + 1, 3, none⟩ (.int .u8 o)).setCell ⟨w.heap.size + 1, 4, none⟩ (.slice mk m cap))) := ((((((hb1.setCell (by simp) _).setCell (by simp) _).setCell (by simp) _).setCell (by simp) _).setCell (by simp) _))
      have hX := yJj rfl (.int .u8 k) (.int .u64 nn) (.string s) (.int .u8 o) (.slice mk m cap) hrw
      have hgl : w.heap.size < w.heap.size + 1 := (by omega)
      have hS := zQm (.slice mk m cap) (j := w.heap.size + 1) (o := 4) (zQm (.int .u8 o) (j := w.heap.size + 1) (o := 3) (zQm (.string s) (j := w.heap.size + 1) (o := 2) (zQm (.int .u64 nn) (j := w.heap.size + 1) (o := 1) (zQm (.int .u8 k) (j := w.heap.size + 1) (o := 0) hrs (by omega)) (by omega)) (by omega)) (by omega)) (by omega)
      have hE2 := hE.only (w' := (((((w1.setCell ⟨w.heap.size + 1, 0, none⟩ (.int .u8 k)).setCell ⟨w.heap.size + 1, 1, none⟩ (.int .u64 nn)).setCell ⟨w.heap.size + 1, 2, none⟩ (.string s)).setCell ⟨w.heap.size + 1, 3, none⟩ (.int .u8 o)).setCell ⟨w.heap.size + 1, 4, none⟩ (.slice mk m cap))) (S := fun j => j = w.heap.size + 1) (os1 (os1 (os1 (os1 (os1 (or1 (w.heap.size + 1) _) _ _) _ _) _ _) _ _) _ _) (fun b hb e => by have := hb.1; simp at this; omega)
      have hsz : w1.heap.size ≤ ((((((w1.setCell ⟨w.heap.size + 1, 0, none⟩ (.int .u8 k)).setCell ⟨w.heap.size + 1, 1, none⟩ (.int .u64 nn)).setCell ⟨w.heap.size + 1, 2, none⟩ (.string s)).setCell ⟨w.heap.size + 1, 3, none⟩ (.int .u8 o)).setCell ⟨w.heap.size + 1, 4, none⟩ (.slice mk m cap))).heap.size := by simp
      obtain ⟨W2, hW2⟩ : ∃ W, (((((w1.setCell ⟨w.heap.size + 1, 0, none⟩ (.int .u8 k)).setCell ⟨w.heap.size + 1, 1, none⟩ (.int .u64 nn)).setCell ⟨w.heap.size + 1, 2, none⟩ (.string s)).setCell ⟨w.heap.size + 1, 3, none⟩ (.int .u8 o)).setCell ⟨w.heap.size + 1, 4, none⟩ (.slice mk m cap)) = W := ⟨_, rfl⟩
      rw [hW2] at hB2 hX hS hE2 hsz ⊢
      clear hW2
      obtain ⟨d0, d1, dl⟩ := hFi _ hB2
      have df := hFf _ hB2
      have u0 := hX.1 0 (by simp)
      have u1 := hX.1 1 (by simp)
      have u2 := hX.1 2 (by simp)
      have u3 := hX.1 3 (by simp)
      have u4 := hX.1 4 (by simp)
      have r0 := hS.1 0 (by simp)
      have r1 := hS.1 1 (by simp)
      have r2 := hS.1 2 (by simp)
      have r3 := hS.1 3 (by simp)
      have r4 := hS.1 4 (by simp)
      have rf := hS.2.1
      have rl := hS.2.2
      have ul := hX.2.2
      clear hRd hFi hFf hF0 hFB)
   go_wp2
   first
   | (replace k1 := k1
      exact ⟨rfl, hE _ ((((((hb1.setCell (by simp) _).setCell (by simp) _).setCell (by simp) _).setCell (by simp) _).setCell (by simp) _))⟩)
   | (replace k2 := k2
      have hRs := (HH.out.of hB2).setP hq
      have hOn : Only (fun j => w.heap.size ≤ j) (W2.setCell ⟨rb, 1, none⟩ (.int .i64 (q : Int))) ((((((W2.setCell ⟨rb, 1, none⟩ (.int .i64 (q : Int))).setCell ⟨w.heap.size, 0, none⟩ (.int .u8 k)).setCell ⟨w.heap.size, 1, none⟩ (.int .u64 nn)).setCell ⟨w.heap.size, 2, none⟩ (.string s)).setCell ⟨w.heap.size, 3, none⟩ (.int .u8 o)).setCell ⟨w.heap.size, 4, none⟩ (.slice mk m cap)) := zQi (zQi (zQi (zQi (zQi (Only.refl _ _) _ _ _ (Nat.le_refl _)) _ _ _ (Nat.le_refl _)) _ _ _ (Nat.le_refl _)) _ _ _ (Nat.le_refl _)) _ _ _ (Nat.le_refl _)
      have hE3 := hE2.only (w' := (((((W2.setCell ⟨rb, 1, none⟩ (.int .i64 (q : Int))).setCell ⟨w.heap.size, 0, none⟩ (.int .u8 k)).setCell ⟨w.heap.size, 1, none⟩ (.int .u64 nn)).setCell ⟨w.heap.size, 2, none⟩ (.string s)).setCell ⟨w.heap.size, 3, none⟩ (.int .u8 o)).setCell ⟨w.heap.size, 4, none⟩ (.slice mk m cap)) (S := fun j => j = rb ∨ j = w.heap.size) (zQi (zQi (zQi (zQi (zQi (zQi (Only.refl _ _) _ _ _ (.inl rfl)) _ _ _ (.inr rfl)) _ _ _ (.inr rfl)) _ _ _ (.inr rfl)) _ _ _ (.inr rfl)) _ _ _ (.inr rfl)) (fun b hb e => by have := hb.1; simp at this; omega)
      refine bodyPost_ret (xJu rfl _ _ w.heap.size _ _ _ _ _ rfl (yJj rfl _ _ _ _ _ (zQm _ hS (by omega)))) rfl ?_
      exact .ok ((os1 (ob1 rb hB2) _ _).old hOn (fun j hj => .inr hj)) (HH.out.newer hRs hOn) (hE3.mono (fun b hb => ⟨by have := hb.1; simp at this; omega, by have := hb.2; simp only [World.size_setCell]; omega⟩)))
theorem zKt {w w' : World} {u : Value} {x : Xp} (h : VX w w' u x) : ∃ (k nn : Int) (s : ByteArray) (o : Int) (mk : Option Addr) (m cap : Nat), u = .agg #[.int .u8 k, .int .u64 nn, .string s, .int .u8 o, .slice mk m cap] := by
 cases h with
 | mk ho hl hk => exact ⟨_, _, _, _, _, _, _, rfl⟩
theorem zKe {w : World} {rb mb : Nat} {v : Value} {T : List (Tk × Int)} {p d n : Nat} (h : IsRs w rb mb v T p d n) :
 Calls Tryz.prog 141 #[.pointer (some ⟨rb, 0, none⟩)] w (RP VX w rb mb v T d (expR (zQb T) p n)) := by
 unfold expR
 cases hR : rdE 40 (zQb T) p with
 | er c q => exact expr_m.1 h c q hR
 | ok x q => exact expr_m.2 h x q hR
theorem zXw {w : World} {rb mb : Nat} {v : Value} {T : List (Tk × Int)} {p d n : Nat} (h : IsRs w rb mb v T p d n) :
 Calls Tryz.prog 138 #[.pointer (some ⟨rb, 0, none⟩)] w (RP VN w rb mb v T d (namR (zQb T) p n)) := by
 obtain ⟨t, z, ht⟩ := h.tok
 obtain ⟨b, o, N, c, c0, hpN, hN, hb, q0, q1, q2, q3⟩ := ht.at_
 have c1 := h.c1
 have hf := h.f
 have hrl := h.rl
 have hw : IntKind.i64.wrap ((p : Int) + 1) = ((p + 1 : Nat) : Int) := by rw [IntKind.wrap_i64]; have := h.lt; have := h.len; omega
 have hm := h.more
 have HH := Lib.hid h
 unfold namR
 rw [ht.knd_] at hm ⊢
 rw [ht.txt_] at hm ⊢
 clear ht h
 by_cases hc : t.k = 1
 ·rw [if_pos hc]
  have hm' := hm (.inr (by omega))
  rw [hc] at q0
  clear hm hc
  go_enter Tryz.func138, Tryz.ntmps138
  go_wp2
  go_region
  go_wp2
  go_ret
  exact .ok ((os1 (or1 rb w) _ _).trans (ob1 rb (bdN (aB (Below.refl _ _) _) 1))) ((HH.out.setP hm').of (bdN (aB (Below.refl _ _) _) 1)) rfl
 ·rw [if_neg hc]
  have hS := fun W hB => zKo (HH.out.of (w' := W) hB) 7 7 rfl
  have hcc : ((t.k : Int) != 1) = true := by simp; omega
  go_enter Tryz.func138, Tryz.ntmps138
  go_wp2
  go_region
  go_wp2_with (go_at_call 113; ((with_reducible refine (hS _ (bdd (aB (Below.refl _ _) _))).mono ?_); (rintro e w2 ⟨he, k, rfl⟩); unfold Flt at he; subst he))
  exact ⟨rfl, .er (zXn (ob1 rb (aB (Below.refl _ _) _)) (1 + k))⟩
theorem yQn {w : World} {rb mb : Nat} {v : Value} {T : List (Tk × Int)} {p d n : Nat} (h : IsRs w rb mb v T p d n) (a b : List UInt8) (ha : a ≠ []) (hb : b ≠ []) :
 Calls Tryz.prog 139 #[.pointer (some ⟨rb, 0, none⟩), .string (str a), .string (str b)] w (RP VX w rb mb v T d (betR (zQb T) a b p n)) := by
 unfold betR
 go_enter Tryz.func139, Tryz.ntmps139
 have hB0 : Below w.heap.size w (w.alloc (.cells #[.int .u8 0, .int .u64 0, .string ⟨#[]⟩, .int .u8 0, .slice none 0 0] 47)) := aB (Below.refl _ _) _
 have hO0 := ob1 rb hB0
 have hS0 := zQf #[.int .u8 0, .int .u64 0, .string ⟨#[]⟩, .int .u8 0, .slice none 0 0] 47 w w.heap.size rfl
 have hrl := h.rl
 go_wp2_with (first
  | (go_at_call 140; ((with_reducible refine (zXl (h.of hB0) a ha).mono ?_); (rintro e w1 ⟨hO1, hR1⟩); (have hP1 := hO0.trans hO1); (have hS1 := zQa hS0 hO1 (fun e => by omega)); (rcases r1 : takR (zQb T) a p n with ⟨c1, q1⟩ | ⟨x1, q1, m1⟩) <;> (rw [r1] at hR1; first | (unfold Flt at hR1; subst hR1) | (obtain ⟨hI1, z1, rfl, hV1⟩ := hR1))))
  | (go_at_call 141; ((with_reducible refine (zKe hI1).mono ?_); (rintro e w2 ⟨hO2, hR2⟩); (have hP2 := hP1.trans hO2); (have hS2 := zQa hS1 hO2 (fun e => by omega)); (rcases r2 : expR (zQb T) q1 m1 with ⟨c2, q2⟩ | ⟨x2, q2, m2⟩) <;> (rw [r2] at hR2; first | (unfold Flt at hR2; subst hR2) | (obtain ⟨hI2, z2, rfl, hV2⟩ := hR2; (obtain ⟨k, nn, s, o, mk, mm, cap, rfl⟩ := zKt hV2); (have hX2 := zQf #[.int .u8 k, .int .u64 nn, .string s, .int .u8 o, .slice mk mm cap] 47 w2 w2.heap.size rfl); (have hIX := hI2.of (aB (Below.refl _ _) (.cells #[.int .u8 k, .int .u64 nn, .string s, .int .u8 o, .slice mk mm cap] 47))); (have hPX := hP2.trans (ob1 rb (aB (Below.refl _ _) (.cells #[.int .u8 k, .int .u64 nn, .string s, .int .u8 o, .slice mk mm cap] 47))))))))
  | (go_at_call 140; ((with_reducible refine (zXl hIX b hb).mono ?_); (rintro e w3 ⟨hO3, hR3⟩); (have hP3 := hPX.trans hO3); (have hl2 := hX2.2.2); (have hX3 := zQa hX2 hO3 (fun e => by have := hI2.rl; omega)); (have hS3 := zQa (zQj hS2 _) hO3 (fun e => by omega)); (rcases r3 : takR (zQb T) b q2 m2 with ⟨c3, q3⟩ | ⟨x3, q3, m3⟩) <;> (rw [r3] at hR3; first | (unfold Flt at hR3; subst hR3) | (obtain ⟨hI3, z3, rfl, hV3⟩ := hR3; (have u0 := hX3.1 0 (by simp)); (have u1 := hX3.1 1 (by simp)); (have u2 := hX3.1 2 (by simp)); (have u3 := hX3.1 3 (by simp)); (have u4 := hX3.1 4 (by simp)); (have s0 := hS3.1 0 (by simp)); (have s1 := hS3.1 1 (by simp)); (have s2 := hS3.1 2 (by simp)); (have s3 := hS3.1 3 (by simp)); (have s4 := hS3.1 4 (by simp)); (have sf := hS3.2.1); (have sl := hS3.2.2); (have ul := hX3.2.2)))))
  )
 all_goals first
  | (refine ⟨rfl, ?_⟩; simp only [r1, Rz.next]; exact .er hP1)
  | (refine ⟨rfl, ?_⟩; simp only [r1, r2, Rz.next]; exact .er hP2)
  | (refine ⟨rfl, ?_⟩; simp only [r1, r2, r3, Rz.next]; exact .er hP3)
  | skip
 simp only [r1, r2, r3, Rz.next]
 have hOn : Only (fun j => w.heap.size ≤ j) w3 (((((w3.setCell ⟨w.heap.size, 0, none⟩ (.int .u8 k)).setCell ⟨w.heap.size, 1, none⟩ (.int .u64 nn)).setCell ⟨w.heap.size, 2, none⟩ (.string s)).setCell ⟨w.heap.size, 3, none⟩ (.int .u8 o)).setCell ⟨w.heap.size, 4, none⟩ (.slice mk mm cap)) := zQi (zQi (zQi (zQi (zQi (Only.refl _ _) _ _ _ (Nat.le_refl _)) _ _ _ (Nat.le_refl _)) _ _ _ (Nat.le_refl _)) _ _ _ (Nat.le_refl _)) _ _ _ (Nat.le_refl _)
 have hsz1 := hP1.size
 have hsz2 : w2.heap.size ≤ w3.heap.size := by have := hO3.size; simp at this; omega
 have hE3 := ((hV2.of (aB (Below.refl _ _) (.cells #[.int .u8 k, .int .u64 nn, .string s, .int .u8 o, .slice mk mm cap] 47))).only hO3 (fun b hb e => by have := hb.1; omega)).only (w' := (((((w3.setCell ⟨w.heap.size, 0, none⟩ (.int .u8 k)).setCell ⟨w.heap.size, 1, none⟩ (.int .u64 nn)).setCell ⟨w.heap.size, 2, none⟩ (.string s)).setCell ⟨w.heap.size, 3, none⟩ (.int .u8 o)).setCell ⟨w.heap.size, 4, none⟩ (.slice mk mm cap))) (S := fun j => j = w.heap.size) (os1 (os1 (os1 (os1 (os1 (or1 _ _) _ _) _ _) _ _) _ _) _ _) (fun b hb e => by have := hb.1; have := hO1.size; simp at this; omega)
 refine bodyPost_ret (xJu rfl _ _ w.heap.size _ _ _ _ _ rfl (yJj rfl _ _ _ _ _ hS3)) rfl ?_
 exact .ok (hP3.old hOn (fun j hj => .inr hj)) (h.newer hI3 hOn) (hE3.mono (fun b hb => ⟨by have := hb.1; omega, by have := hb.2; simp only [World.size_setCell]; omega⟩))
theorem yJd {T : List Tk} {s : List UInt8} {p : Nat} (h : txt T p = s) : isP T s p = true := by unfold isP; simp [h]
theorem yJe {T : List Tk} {s : List UInt8} {p : Nat} (h : ¬ txt T p = s) : isP T s p = false := by unfold isP; simp [h]
theorem yKn {T : List Tk} {s : List UInt8} {p : Nat} (h : txt T p = s) : beP T s p = p + 1 := by unfold beP; rw [if_pos h]
theorem yKo {T : List Tk} {s : List UInt8} {p : Nat} (h : ¬ txt T p = s) : beP T s p = p := by unfold beP; rw [if_neg h]
def yXc : Value → Nat
 | .slice _ n _ => n
 | _ => 0
theorem jZj {w w' : World} {u : Value} {x : Xp} (h : VX w w' u x) : ∃ K : Kx, u = .agg #[.int .u8 (K.k : Int), .int .u64 (K.n : Int), .string (str K.s), .int .u8 (K.o : Int), .slice K.ma K.m K.cap] ∧ K.x = x ∧ K.is (fun b => w.heap.size ≤ b ∧ b < w'.heap.size) w' := by
 cases h with
 | @mk k n s o l ma cap ho hl hk => exact ⟨⟨k, n, s, o, ma, l.length, cap, .mk k n s o l⟩, rfl, rfl, IsE.mk ho hl hk⟩
theorem infoXl : (Tryz.prog.info? 47).map (fun i => (i.zero, i.size, i.bytes)) = some (some (.agg #[.int .u8 0, .int .u64 0, .string ⟨#[]⟩, .int .u8 0, .slice none 0 0]), 5, 64) := by kernel_rfl
theorem xQb {w : World} {rb mb : Nat} {v : Value} {T : List (Tk × Int)} {p d n : Nat} (h : IsRs w rb mb v T p d n) (bh : List UInt8) (hbh : bh ≠ []) :
 Calls Tryz.prog 144 #[.pointer (some ⟨rb, 0, none⟩), .func (.func 141) #[] #[], .string (str bh)] w (RP VXs w rb mb v T d (lisR (zQb T) (expR (zQb T)) bh p n)) := by
 obtain ⟨i0, hi, hz0, hz1, hz2⟩ := info_parts infoXl
 have hrl := h.rl
 by_cases hc : txt (zQb T) p = bh
 ·have hH0 := zXd h bh hbh
  rw [yJd hc, yKn hc] at hH0
  rw [show lisR (zQb T) (expR (zQb T)) bh p n = .ok [] (p + 1) n from by unfold lisR; rw [if_pos hc]]
  go_enter Tryz.func144, Tryz.ntmps144
  go_wp2_with (go_at_call 137; ((with_reducible refine hH0.mono ?_); (rintro e w1 ⟨rfl, hO1, hI1⟩)))
  go_ret
  exact .ok hO1 hI1 ⟨none, 0, rfl, by simp, .nil⟩
 have hH0 := zXd h bh hbh
 rw [yJe hc, yKo hc] at hH0
 cases r1 : expR (zQb T) p n with
 | er c q =>
  rw [show lisR (zQb T) (expR (zQb T)) bh p n = .er c q from by unfold lisR; rw [if_neg hc, r1]; rfl]
  have h1 := fun w1 (hI1 : IsRs w1 rb mb v T p d n) => zKe hI1
  rw [r1] at h1
  go_enter Tryz.func144, Tryz.ntmps144
  go_wp2_with (first
   | (go_at_call 137; ((with_reducible refine hH0.mono ?_); (rintro e w1 ⟨rfl, hO1, hI1⟩)))
   | (go_at_call 141; ((with_reducible refine (h1 _ hI1).mono ?_); (rintro e w2 ⟨hO2, he⟩); (unfold Flt at he; subst he))))
  exact ⟨rfl, .er (hO1.trans hO2)⟩
 | ok x q m =>
  have hR0 : lisR (zQb T) (expR (zQb T)) bh p n = lisL (zQb T) (expR (zQb T)) bh 9 [x] q m := by unfold lisR; rw [if_neg hc, r1]; rfl
  obtain ⟨R, hR⟩ : ∃ R, lisL (zQb T) (expR (zQb T)) bh 9 [x] q m = R := ⟨_, rfl⟩
  rw [hR0, hR]
  have h1 := fun w1 (hI1 : IsRs w1 rb mb v T p d n) => zKe hI1
  rw [r1] at h1
  go_enter Tryz.func144, Tryz.ntmps144
  go_wp2_with (first
   | (go_at_call 137; ((with_reducible refine hH0.mono ?_); (rintro e w1 ⟨rfl, hO1, hI1⟩)))
   | (go_at_call 141; ((with_reducible refine (h1 _ hI1).mono ?_); (rintro e w2 ⟨hO2, hI2, u, rfl, hV2⟩); (obtain ⟨K2, rfl, e2, hK2⟩ := jZj hV2))))
  have hP2 := hO1.trans hO2
  have hs2 := hP2.size
  obtain ⟨W, hW⟩ : ∃ W, w2.alloc (.cells #[.int .u8 (K2.k : Int), .int .u64 (K2.n : Int), .string (str K2.s), .int .u8 (K2.o : Int), .slice K2.ma K2.m K2.cap] 47) = W := ⟨_, rfl⟩
  have hBW : Below w2.heap.size w2 W := by rw [← hW]; exact aB (Below.refl _ _) _
  have hown0 : W.ownsRow w.heap.size 47 5 (.slice (some ⟨w2.heap.size, 0, none⟩) 1 1) 1 (kxs [K2]) := by rw [← hW]; exact World.ownsRow_lit w2 #[.int .u8 (K2.k : Int), .int .u64 (K2.n : Int), .string (str K2.s), .int .u8 (K2.o : Int), .slice K2.ma K2.m K2.cap] 1 hs2 (by unfold maxLen; omega) rfl
  have hIW := hI2.of hBW
  have hPW := hP2.trans (ob1 rb hBW)
  have hsW : W.heap.size = w2.heap.size + 1 := by rw [← hW]; simp
  have hK0 : K2.is (fun b => w.heap.size ≤ b ∧ b < W.heap.size ∧ ¬ b = w2.heap.size) W := (IsE.of hK2 hBW).mono (fun b hb => ⟨by have := hb.1; have := hO1.size; omega, by have := hb.2; omega, by have := hb.2; omega⟩)
  rw [hW]
  clear hW h1 hH0
  go_loopw [7] (fun lv wr => ∃ (L : List Kx) (M f p n : Nat), M = L.length ∧ 1 ≤ M ∧ M ≤ 8 ∧ f + M = 10 ∧ lisL (zQb T) (expR (zQb T)) bh f (L.map (·.x)) p n = R ∧ wr.ownsRow w.heap.size 47 5 lv M (kxs L) ∧ IsRs wr rb mb v T p d n ∧ Only (fun j => j = rb) w wr ∧ Hid (∀ K ∈ L, K.is (fun b => w.heap.size ≤ b ∧ b < wr.heap.size ∧ ¬ lv.ownBlock = some b) wr)) (fun lv _ => 9 - yXc lv)
  case atStart => exact ⟨[K2], 1, 9, q, m, rfl, by omega, by omega, rfl, by rw [← hR]; simp [e2], hown0, hIW, hPW, Lib.hid (fun K hK => by rw [List.mem_singleton] at hK; subst hK; exact hK0.mono (fun b hb => ⟨hb.1, hb.2.1, fun e => by simp only [Value.ownBlock, Option.some.injEq] at e; exact hb.2.2 e.symm⟩))⟩
  case round =>
   obtain ⟨L, M, f, p, n, hM, hM1, hM8, hf, hRR, hown, hI, hP, HK⟩ := hrel
   obtain ⟨f, rfl⟩ : ∃ f', f = f' + 1 := ⟨f - 1, by omega⟩
   have HM := Lib.hid hM
   have Hf := Lib.hid hf
   have hsr := hP.size
   obtain ⟨a, c, rfl⟩ := zKb hown
   by_cases hc : txt (zQb T) p = bh
   ·have hH0 := zXd hI bh hbh
    rw [yJd hc, yKn hc] at hH0
    have hRe : R = .ok (L.map (·.x)) (p + 1) n := by rw [← hRR]; unfold lisL; rw [if_pos hc]
    clear hM hf
    go_wp2_with (go_at_call 137; ((with_reducible refine hH0.mono ?_); (rintro e w3 ⟨rfl, hO3, hI3⟩)))
    go_ret
    rw [hRe]
    obtain ⟨mk, ck, hmk, hkk⟩ := yXw hown HM.out HK.out
    simp only [Value.slice.injEq, true_and] at hmk
    obtain ⟨rfl, rfl⟩ := hmk
    exact .ok (u := .slice a M c) (hP.trans hO3) hI3 ⟨a, c, by rw [List.length_map, ← HM.out], by rw [List.length_map, ← HM.out]; omega, (hkk.only hO3 (fun b hb e => by have := hb.1; have e2 : b = rb := e; omega)).mono (fun b hb => ⟨hb.1, Nat.lt_of_lt_of_le hb.2 hO3.size⟩)⟩
   have hH0 := zXd hI bh hbh
   rw [yJe hc, yKo hc] at hH0
   have hT0 : ∀ {W : World}, IsRs W rb mb v T p d n → Calls Tryz.prog 140 #[.pointer (some ⟨rb, 0, none⟩), .string ⟨#[44]⟩] W (RP VU W rb mb v T d (takR (zQb T) [44] p n)) := fun h => zXl h [44] (by decide)
   rw [show lisL (zQb T) (expR (zQb T)) bh (f + 1) (L.map (·.x)) p n = (takR (zQb T) [44] p n).next fun _ p n => if (L.map (·.x)).length = 8 then .er 5 p else (expR (zQb T) p n).next fun x p n => lisL (zQb T) (expR (zQb T)) bh f ((L.map (·.x)) ++ [x]) p n from by rw [lisL, if_neg hc]] at hRR
   have hxl : (L.map (·.x)).length = M := by simp [HM.out]
   rw [hxl] at hRR
   cases r3 : takR (zQb T) [44] p n with
   | er c3 q3 =>
    rw [r3] at hRR hT0
    simp only [Rz.next] at hRR
    rw [← hRR]
    clear hM hf hRR
    go_wp2_with (first
     | (go_at_call 137; ((with_reducible refine hH0.mono ?_); (rintro e w3 ⟨rfl, hO3, hI3⟩)))
     | (go_at_call 140; ((with_reducible refine (hT0 hI3).mono ?_); (rintro e w4 ⟨hO4, he⟩); (unfold Flt at he; subst he))))
    exact ⟨rfl, .er ((hP.trans hO3).trans hO4)⟩
   | ok u3 q3 m3 =>
    rw [r3] at hRR hT0
    simp only [Rz.next] at hRR
    by_cases hM8' : M = 8
    ·rw [if_pos hM8'] at hRR
     rw [← hRR]
     have h8 : ((M : Int) == 8) = true := by simp; omega
     have hS := fun W (hW : IsRs W rb mb v T q3 d m3) => zKo hW 5 5 rfl
     clear hM hf hRR hM8'
     go_wp2_with (first
      | (go_at_call 137; ((with_reducible refine hH0.mono ?_); (rintro e w3 ⟨rfl, hO3, hI3⟩)))
      | (go_at_call 140; ((with_reducible refine (hT0 hI3).mono ?_); (rintro e w4 ⟨hO4, hI4, u4, rfl, hV4⟩); (unfold VU at hV4; subst hV4)))
      | (go_at_call 113; ((with_reducible refine (hS _ hI4).mono ?_); (rintro e w5 ⟨he, k, rfl⟩); (unfold Flt at he; subst he))))
     exact ⟨rfl, .er (zXn ((hP.trans hO3).trans hO4) k)⟩
    rw [if_neg hM8'] at hRR
    have h8 : ((M : Int) == 8) = false := by simp; omega
    have h1 := fun w1 (hI1 : IsRs w1 rb mb v T q3 d m3) => zKe hI1
    cases r5 : expR (zQb T) q3 m3 with
    | er c5 q5 =>
     rw [r5] at hRR h1
     simp only at hRR
     rw [← hRR]
     clear hM hf hRR hM8'
     go_wp2_with (first
      | (go_at_call 137; ((with_reducible refine hH0.mono ?_); (rintro e w3 ⟨rfl, hO3, hI3⟩)))
      | (go_at_call 140; ((with_reducible refine (hT0 hI3).mono ?_); (rintro e w4 ⟨hO4, hI4, u4, rfl, hV4⟩); (unfold VU at hV4; subst hV4)))
      | (go_at_call 141; ((with_reducible refine (h1 _ hI4).mono ?_); (rintro e w5 ⟨hO5, he⟩); (unfold Flt at he; subst he))))
     exact ⟨rfl, .er (((hP.trans hO3).trans hO4).trans hO5)⟩
    | ok x5 q5 m5 =>
     rw [r5] at hRR h1
     simp only at hRR
     have Hne := Lib.hid hM8'
     clear hM hf hM8'
     go_wp2_with (first
      | (go_at_call 137; ((with_reducible refine hH0.mono ?_); (rintro e w3 ⟨rfl, hO3, hI3⟩)))
      | (go_at_call 140; ((with_reducible refine (hT0 hI3).mono ?_); (rintro e w4 ⟨hO4, hI4, u4, rfl, hV4⟩); (unfold VU at hV4; subst hV4)))
      | (go_at_call 141; ((with_reducible refine (h1 _ hI4).mono ?_); (rintro e w5 ⟨hO5, hI5, u5, rfl, hV5⟩); (obtain ⟨K5, rfl, e5, hK5⟩ := jZj hV5); (have hO35 := (hO3.trans hO4).trans hO5); (have ho5 := zQy hown hO35 (fun j hj e => by have := zQu hown hj; have e2 : j = rb := e; omega))))
      | (at_builtin; refine wpList_append_lies _ rfl _ _ 41 rfl w.heap.size 47 i0 _ 5 64 Tryz.underlying41 hi hz0 hz1 hz2 rfl (by decide) _ M (kxs L) rfl (ho5.alloc _) ⟨w5.heap.size, 0, none⟩ 1 1 (kxs [K5]) rfl rfl ?cN ?c0 (by decide) ?c1 ?c2 ?c3 _ rfl ?_))
     case cN => exact zXe (kxs [K5]) 47 w5
     case c0 => exact yXl _
     case c1 => unfold maxLen; omega
     case c2 => omega
     case c3 => have := hO35.size; simp; omega
     obtain ⟨wa, hwa⟩ : ∃ wa, w5.alloc (.cells #[.int .u8 (K5.k : Int), .int .u64 (K5.n : Int), .string (str K5.s), .int .u8 (K5.o : Int), .slice K5.ma K5.m K5.cap] 47) = wa := ⟨_, rfl⟩
     have hba : Below w5.heap.size w5 wa := by rw [← hwa]; exact aB (Below.refl _ _) _
     intro g cap' w6 hown6 hgrow hat hlt6
     rw [hwa] at hgrow
     have hsz : wa.heap.size = w5.heap.size + 1 := by rw [← hwa]; simp
     have hs5 := hO35.size
     have hog := zXc hgrow
     have hP5 : Only (fun j => j = rb) w w5 := hP.trans hO35
     have hIa : IsRs wa rb mb v T q5 d m5 := hI5.of hba
     have hnew : ∀ j, some j = (Value.slice a M c).ownBlock → w.heap.size ≤ j := fun j hj => (zQu hown hj.symm).1
     have hI6 : IsRs w6 rb mb v T q5 d m5 := h.newer hIa (hog.mono hnew)
     have hP6 : Only (fun j => j = rb) w w6 := (hP5.trans (ob1 rb hba)).old hog (fun j hj => .inr (hnew j hj))
     go_wp2
     go_roundw
     case rel =>
      have hall : ∀ K ∈ L ++ [K5], K.is (fun b => w.heap.size ≤ b ∧ b < wa.heap.size ∧ ¬ (Value.slice a M c).ownBlock = some b) wa := fun K hK => by
       rcases List.mem_append.1 hK with h1 | h1
       ·exact (IsE.of (IsE.only (HK.out K h1) hO35 (fun b hb e => by have := hb.1; have e2 : b = rb := e; omega)) hba).mono (fun b hb => ⟨hb.1, by have := hb.2.1; omega, hb.2.2⟩)
       ·obtain rfl := List.mem_singleton.1 h1
        exact (IsE.of hK5 hba).mono (fun b hb => ⟨by have := hb.1; have := hO3.size; have := hO4.size; omega, by have := hb.2; omega, fun e => by have := zQu hown e; have := hb.1; have := hO3.size; have := hO4.size; omega⟩)
      have hall6 := yQc hgrow hat hsz _ hall (M + 1) cap'
      exact ⟨L ++ [K5], M + 1, f, q5, m5, by simp [HM.out], by omega, by have := Hne.out; omega, by have := Hf.out; omega, by rw [← hRR]; simp [e5], by rw [yJy]; exact hown6, hI6, hP6, Lib.hid hall6⟩
     case measure => simp [yXc]; omega
theorem xKd {w : World} {rb mb : Nat} {v : Value} {T : List (Tk × Int)} {p d n : Nat} (h : IsRs w rb mb v T p d n) {blk : Nat → Nat → Rz (List St)} (hK : BlkC rb mb v T d blk) (mu : Bool) :
 Calls Tryz.prog 143 #[.pointer (some ⟨rb, 0, none⟩), .bool mu] w (RP VS w rb mb v T d (lenR (zQb T) blk mu p n)) := by
 have hrl := h.rl
 unfold BlkC at hK
 have hT1 : ∀ {W : World} {p n : Nat}, IsRs W rb mb v T p d n → Calls Tryz.prog 140 #[.pointer (some ⟨rb, 0, none⟩), .string ⟨#[61]⟩] W (RP VU W rb mb v T d (takR (zQb T) [61] p n)) := fun h => zXl h [61] (by decide)
 have hB : ∀ {W : World} {p n : Nat}, IsRs W rb mb v T p d n → Calls Tryz.prog 139 #[.pointer (some ⟨rb, 0, none⟩), .string ⟨#[91]⟩, .string ⟨#[46, 46]⟩] W (RP VX W rb mb v T d (betR (zQb T) [91] [46, 46] p n)) := fun h => yQn h [91] [46, 46] (by decide) (by decide)
 have hT2 : ∀ {W : World} {p n : Nat}, IsRs W rb mb v T p d n → Calls Tryz.prog 140 #[.pointer (some ⟨rb, 0, none⟩), .string ⟨#[93]⟩] W (RP VU W rb mb v T d (takR (zQb T) [93] p n)) := fun h => zXl h [93] (by decide)
 unfold lenR
 go_enter Tryz.func143, Tryz.ntmps143
 go_wp2_with (first
  | (go_at_call 138; ((with_reducible refine (zXw (h.newer h (zQc (Only.refl _ _) _))).mono ?_); (rintro e w1 ⟨hO1, hR1⟩); (have hP1 : Only (fun j => j = rb) w w1 := ((Only.refl _ _).old (zQc (Only.refl _ _) _) (fun j hj => .inr hj)).trans hO1); (have hs1 := hO1.size); (simp only [World.size_alloc] at hs1); (have hZ1 := zQa (zQf _ _ _ (w.heap.size) (by simp)) hO1 (by omega)); (rcases r1 : namR (zQb T) p n with ⟨c1, q1⟩ | ⟨x1, q1, m1⟩) <;> (rw [r1] at hR1; first | (unfold Flt at hR1; subst hR1) | (obtain ⟨hI1, z1, rfl, hV1⟩ := hR1; (unfold VN at hV1; subst hV1)))))
  | (go_at_call 140; ((with_reducible refine (hT1 (h.newer hI1 (zQc (Only.refl _ _) _))).mono ?_); (rintro e w2 ⟨hO2, hR2⟩); (have hP2 : Only (fun j => j = rb) w w2 := (hP1.old (zQc (Only.refl _ _) _) (fun j hj => .inr hj)).trans hO2); (have hs2 := hO2.size); (simp only [World.size_alloc] at hs2); (have hZ2 := zQa (zQj hZ1 _) hO2 (by omega)); (have hS2 := zQa (zQf _ _ _ (w1.heap.size) (by simp)) hO2 (by omega)); (rcases r2 : takR (zQb T) [61] q1 m1 with ⟨c2, q2⟩ | ⟨x2, q2, m2⟩) <;> (rw [r2] at hR2; first | (unfold Flt at hR2; subst hR2) | (obtain ⟨hI2, z2, rfl, hV2⟩ := hR2; (unfold VU at hV2; subst hV2)))))
  | (go_at_call 138; ((with_reducible refine (zXw hI2).mono ?_); (rintro e w3 ⟨hO3, hR3⟩); (have hP3 := hP2.trans hO3); (have hs3 := hO3.size); (have hZ3 := zQa hZ2 hO3 (by omega)); (have hS3 := zQa hS2 hO3 (by omega)); (rcases r3 : namR (zQb T) q2 m2 with ⟨c3, q3⟩ | ⟨x3, q3, m3⟩) <;> (rw [r3] at hR3; first | (unfold Flt at hR3; subst hR3) | (obtain ⟨hI3, z3, rfl, hV3⟩ := hR3; (unfold VN at hV3; subst hV3); (have fS2_3 := hS3.1 2 (by simp)); (have ffS_3 := hS3.2.1); (have flS_3 := hS3.2.2)))))
  | (go_at_call 139; ((with_reducible refine (hB (h.newer hI3 (zQi (Only.refl _ _) _ _ _ (by omega)))).mono ?_); (rintro e w4 ⟨hO4, hR4⟩); (have hP4 : Only (fun j => j = rb) w w4 := (hP3.old (zQi (Only.refl _ _) _ _ _ (by omega)) (fun j hj => .inr hj)).trans hO4); (have hs4 := hO4.size); (simp only [World.size_setCell] at hs4); (have hZ4 := zQa (zQm _ hZ3 (by omega)) hO4 (by omega)); (have hS4 := zQa (r9s2 (.string (str x3)) hS3) hO4 (by omega)); (rcases r4 : betR (zQb T) [91] [46, 46] q3 m3 with ⟨c4, q4⟩ | ⟨x4, q4, m4⟩) <;> (rw [r4] at hR4; first | (unfold Flt at hR4; subst hR4) | (obtain ⟨hI4, z4, rfl, hV4⟩ := hR4; (obtain ⟨k4, n4, s4, o4, mk4, mm4, cap4, rfl⟩ := zKt hV4)))))
  | (go_at_call 141; ((with_reducible refine (zKe hI4).mono ?_); (rintro e w5 ⟨hO5, hR5⟩); (have hP5 := hP4.trans hO5); (have hs5 := hO5.size); (have hZ5 := zQa hZ4 hO5 (by omega)); (have hS5 := zQa hS4 hO5 (by omega)); (have hE4_5 := (hV4).only hO5 (fun b hb e => by simp at *; omega)); (rcases r5 : expR (zQb T) q4 m4 with ⟨c5, q5⟩ | ⟨x5, q5, m5⟩) <;> (rw [r5] at hR5; first | (unfold Flt at hR5; subst hR5) | (obtain ⟨hI5, z5, rfl, hV5⟩ := hR5; (obtain ⟨k5, n5, s5, o5, mk5, mm5, cap5, rfl⟩ := zKt hV5); (have fS5_5 := hS5.1 5 (by simp)); (have ffS_5 := hS5.2.1); (have flS_5 := hS5.2.2)))))
  | (go_at_call 140; ((with_reducible refine (hT2 (h.newer hI5 (zQc (zQi (Only.refl _ _) _ _ _ (by omega)) _))).mono ?_); (rintro e w6 ⟨hO6, hR6⟩); (have hP6 : Only (fun j => j = rb) w w6 := (hP5.old (zQc (zQi (Only.refl _ _) _ _ _ (by omega)) _) (fun j hj => .inr hj)).trans hO6); (have hs6 := hO6.size); (simp only [World.size_alloc, World.size_setCell] at hs6); (have hZ6 := zQa (zQj (zQm _ hZ5 (by omega)) _) hO6 (by omega)); (have hS6 := zQa (zQj (r9s5 (.slice (some ⟨w5.heap.size, 0, none⟩) 2 2) hS5) _) hO6 (by omega)); (have hK6 := zQa (zQf #[.int .u8 k4, .int .u64 n4, .string s4, .int .u8 o4, .slice mk4 mm4 cap4, .int .u8 k5, .int .u64 n5, .string s5, .int .u8 o5, .slice mk5 mm5 cap5] 47 (w5.setCell ⟨w1.heap.size, 5, none⟩ (.slice (some ⟨w5.heap.size, 0, none⟩) 2 2)) (w5.heap.size) (by simp)) hO6 (by omega)); (have hE4_6 := (((hE4_5.only (os1 (or1 (w1.heap.size) _) 5 (.slice (some ⟨w5.heap.size, 0, none⟩) 2 2)) (fun b hb e => by simp at *; omega)).of (aB (Below.refl _ _) _))).only hO6 (fun b hb e => by simp at *; omega)); (have hE5_6 := (((hV5.only (os1 (or1 (w1.heap.size) _) 5 (.slice (some ⟨w5.heap.size, 0, none⟩) 2 2)) (fun b hb e => by simp at *; omega)).of (aB (Below.refl _ _) _))).only hO6 (fun b hb e => by simp at *; omega)); (rcases r6 : takR (zQb T) [93] q5 m5 with ⟨c6, q6⟩ | ⟨x6, q6, m6⟩) <;> (rw [r6] at hR6; first | (unfold Flt at hR6; subst hR6) | (obtain ⟨hI6, z6, rfl, hV6⟩ := hR6; (unfold VU at hV6; subst hV6)))))
  | (go_at_call 142; ((with_reducible refine (hK hI6).mono ?_); (rintro e w7 ⟨hO7, hR7⟩); (have hP7 := hP6.trans hO7); (have hs7 := hO7.size); (have hZ7 := zQa hZ6 hO7 (by omega)); (have hS7 := zQa hS6 hO7 (by omega)); (have hK7 := zQa hK6 hO7 (by omega)); (have hE4_7 := (hE4_6).only hO7 (fun b hb e => by simp at *; omega)); (have hE5_7 := (hE5_6).only hO7 (fun b hb e => by simp at *; omega)); (rcases r7 : blk q6 m6 with ⟨c7, q7⟩ | ⟨x7, q7, m7⟩) <;> (rw [r7] at hR7; first | (unfold Flt at hR7; subst hR7) | (obtain ⟨hI7, z7, rfl, hV7⟩ := hR7; (obtain ⟨mk7, cap7, rfl, hL7, hE7⟩ := hV7); (have fS7_7 := hS7.1 7 (by simp)); (have ffS_7 := hS7.2.1); (have flS_7 := hS7.2.2)))))
  | (with_reducible refine ld9 rfl _ rfl (w1.heap.size) rfl (show rowG #[.int .u8 8, .string (str x1), .string (str x3), .bool false, .bool mu, .slice (some ⟨w5.heap.size, 0, none⟩) 2 2, .slice none 0 0, .slice mk7 x7.length cap7, .slice none 0 0] _ _ from (r9s7 (.slice mk7 x7.length cap7) hS7)) ?_)
  | (with_reducible refine st9 rfl _ _ rfl (w.heap.size) rfl rfl (zQm _ hZ7 (by omega)) ?_; intro wF hF hOF)
  )
 all_goals first
  | (refine ⟨rfl, ?_⟩; simp only [r1, Rz.next]; exact .er hP1)
  | (refine ⟨rfl, ?_⟩; simp only [r1, r2, Rz.next]; exact .er hP2)
  | (refine ⟨rfl, ?_⟩; simp only [r1, r2, r3, Rz.next]; exact .er hP3)
  | (refine ⟨rfl, ?_⟩; simp only [r1, r2, r3, r4, Rz.next]; exact .er hP4)
  | (refine ⟨rfl, ?_⟩; simp only [r1, r2, r3, r4, r5, Rz.next]; exact .er hP5)
  | (refine ⟨rfl, ?_⟩; simp only [r1, r2, r3, r4, r5, r6, Rz.next]; exact .er hP6)
  | (refine ⟨rfl, ?_⟩; simp only [r1, r2, r3, r4, r5, r6, r7, Rz.next]; exact .er hP7)
  | skip
 simp only [r1, r2, r3, r4, r5, r6, r7, Rz.next]
 have hsF := hOF.size
 simp only [World.size_setCell] at hsF
 have hOn : Only (fun j => w.heap.size ≤ j) w7 wF := (zQi (Only.refl _ _) _ _ _ (by omega)).trans (hOF.mono (fun j e => by have e2 : j = w.heap.size := e; omega))
 refine bodyPost_ret (zJv rfl _ _ (w.heap.size) _ _ _ _ _ _ _ _ _ rfl hF) rfl ?_
 exact .ok (hP7.old hOn (fun j hj => .inr hj)) (h.newer hI7 hOn) (IsSt.mk (k := 8) (nm := x1) (fr := x3) (ex := [x4, x5]) (ar := []) (bd := x7) (el := []) (by omega) (by simp) (by simp) hL7 (by simp) (kid_two (zQa (zQm _ hK7 (by omega)) hOF (by omega)) ⟨by omega, by omega⟩ (((hE4_7.only (os1 (or1 (w1.heap.size) _) 7 (.slice mk7 x7.length cap7)) (fun b hb e => by simp at *; omega)).only hOF (fun b hb e => by simp at *; omega)).mono (fun b hb => ⟨by simp at *; omega, by simp at *; omega⟩)) (((hE5_7.only (os1 (or1 (w1.heap.size) _) 7 (.slice mk7 x7.length cap7)) (fun b hb e => by simp at *; omega)).only hOF (fun b hb e => by simp at *; omega)).mono (fun b hb => ⟨by simp at *; omega, by simp at *; omega⟩))) .nil (((hE7.only (os1 (or1 (w1.heap.size) _) 7 (.slice mk7 x7.length cap7)) (fun b hb e => by simp at *; omega)).only hOF (fun b hb e => by simp at *; omega)).mono (fun b hb => ⟨by simp at *; omega, by simp at *; omega⟩)) .nil)
end Go.Proofs.YtfbjljcmmbdhkaaGreatDoor
