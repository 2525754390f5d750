/- Contract of lex.scan: for any text. -/
import Derived.Test.YtfbjljcmmbdhkaaGreatDoorT03
import Derived.Test.YtfbjljcmmbdhkaaGreatDoorT01
import Derived.ScopeJumps
import Derived.WalkMore
import Derived.StillTailTactics
import Derived.Deep.RegionHeld3
namespace Go.Proofs.YtfbjljcmmbdhkaaGreatDoor
set_option linter.unusedVariables false
set_option linter.unusedSimpArgs false
set_option maxRecDepth 100000
set_option maxHeartbeats 200000000
open Go.ChangeShapes Go.WideShapes Go.ChangeAt Go.RowKit
theorem app_pre (T : List (Tk × Nat)) (x : Tk × Nat) (y : Lx) : Lx.app T (Lx.pre x y) = Lx.app (T ++ [x]) y := by simp [Lx.app]
theorem app_er (T : List (Tk × Nat)) (e a : Nat) : Lx.app T (.er e a) = .er e a := by
 induction T with
 | nil => rfl
 | cons x T ih => show Lx.pre x (Lx.app T (.er e a)) = _; rw [ih]; rfl
theorem app_ok (T L : List (Tk × Nat)) : Lx.app T (.ok L) = .ok (T ++ L) := by
 induction T with
 | nil => rfl
 | cons x T ih => show Lx.pre x (Lx.app T (.ok L)) = _; rw [ih]; rfl
theorem at_drop (s : ByteArray) (a : Nat) : (s.data.toList.drop a).drop (bl (s.data.toList.drop a)) = s.data.toList.drop (a + spanL isB s a) := by
 rw [List.drop_drop]; rfl
theorem lexA_end (s : ByteArray) (f a : Nat) (h : a + spanL isB s a = s.size) : lexN (f + 1) (s.data.toList.drop a) a = .ok [(⟨5, [], 0⟩, s.size)] := by
 rw [lexN, at_drop, h, if_pos (by simp), ← h]; rfl
theorem drop_ne (s : ByteArray) (a : Nat) (h : a < s.size) : s.data.toList.drop a ≠ [] := by
 intro e
 have := congrArg List.length e
 simp at this
 omega
theorem lexA_er (s : ByteArray) (f a e : Nat) (h : a + spanL isB s a < s.size) (ht : tok (s.data.toList.drop (a + spanL isB s a)) = .er e) : lexN (f + 1) (s.data.toList.drop a) a = .er e (a + spanL isB s a) := by
 rw [lexN, at_drop, if_neg (drop_ne _ _ h), ht]; rfl
theorem lexA_ok (s : ByteArray) (f a : Nat) (t : Tk) (m : List UInt8) (h : a + spanL isB s a < s.size) (ht : tok (s.data.toList.drop (a + spanL isB s a)) = .ok t m) :
 lexN (f + 1) (s.data.toList.drop a) a = (lexN f (s.data.toList.drop (a + spanL isB s a + m.length)) (a + spanL isB s a + m.length)).pre (t, a + spanL isB s a) := by
 rw [lexN, at_drop, if_neg (drop_ne _ _ h), ht]
 simp only [List.drop_drop]
 rfl
theorem tok_len {l : List UInt8} {t : Tk} {m : List UInt8} (h : tok l = .ok t m) : 0 < m.length ∧ m.length ≤ l.length := by
 obtain ⟨hok, r, hr, _⟩ := tok_ok h
 exact ⟨List.length_pos_iff.2 hok.ne, by rw [hr]; simp⟩
theorem tok_at (s : ByteArray) (a : Nat) (h : a < s.size) : tok (s.data.toList.drop a) = if isL (s[a]'h) then nameP ((s.data.toList.drop a).takeWhile isLD) else if isD (s[a]'h) then numP ((s.data.toList.drop a).takeWhile isD) else signP (ls (s.data.toList.drop a)) := by
 rw [drop_cons s a h, tok]
theorem ext_span (p : UInt8 → Bool) (s : ByteArray) (a : Nat) (h : a + spanL p s a ≤ s.size) : (s.extract a (a + spanL p s a)).data.toList = (s.data.toList.drop a).takeWhile p := by
 rw [ext_list s a _ h, Nat.add_sub_cancel_left]
 exact take_span p _
theorem span_le (p : UInt8 → Bool) (s : ByteArray) (a : Nat) (h : a ≤ s.size) : a + spanL p s a ≤ s.size := by
 unfold spanL
 have h1 : ((s.data.toList.drop a).takeWhile p).length ≤ (s.data.toList.drop a).length := by
  obtain ⟨r, e, _⟩ := takeWhile_pre p (s.data.toList.drop a)
  conv => rhs; rw [e]
  simp
 rw [List.length_drop] at h1
 have : s.data.toList.length = s.size := by simp
 omega
theorem ext_sz (s : ByteArray) (a k : Nat) (h : a + k ≤ s.size) : (s.extract a (a + k)).size = k := by rw [ByteArray.size_extract]; omega
theorem tail_run (s : ByteArray) (a : Nat) (h : a ≤ s.size) (W : World) :
 (Instr.slice 9 (.string s) (some (.int .i64 (a : Int))) none none).run Tryz.prog W = .ok (.string (s.extract a s.size)) W := by
 rw [run_slice_string_l (P := Tryz.prog) W 9 s Tryz.underlying9 .i64 (a : Int) (by omega) (by omega)]
 rfl
theorem ext_tail (s : ByteArray) (a : Nat) (h : a ≤ s.size) : (s.extract a s.size).data.toList = s.data.toList.drop a := by
 rw [ext_list s a _ (Nat.le_refl _), List.take_of_length_le (by simp)]
def cellsT (l : List (Tk × Nat)) : List Value := l.flatMap fun x => [.int .u8 (x.1.k : Int), .string (str x.1.t), .int .u64 (x.1.n : Int), .int .i64 (x.2 : Int)]
theorem cellsT_snoc (l : List (Tk × Nat)) (t : Tk) (a : Nat) : cellsT (l ++ [(t, a)]) = cellsT l ++ [.int .u8 (t.k : Int), .string (str t.t), .int .u64 (t.n : Int), .int .i64 (a : Int)] := by simp [cellsT]
theorem infoT : (Tryz.prog.info? 95).map (fun i => (i.zero, i.size, i.bytes)) = some (some (.agg #[.int .u8 0, .string ⟨#[]⟩, .int .u64 0, .int .i64 0]), 4, 40) := by kernel_rfl
theorem own_of {w w' : World} {base size n : Nat} {e : TypeId} {v : Value} {xs : List Value} (h : w.ownsRow base e size v n xs) (hb : Below w.heap.size w w') : w'.ownsRow base e size v n xs := by
 refine ⟨h.1, ?_⟩
 rcases h.2 with h0 | ⟨g, cap, cur, hv, hg, hh, hr⟩
 ·exact Or.inl h0
 ·refine Or.inr ⟨g, cap, cur, hv, hg, ?_, hr⟩
  rw [hb.block g (Array.getElem?_eq_some_iff.1 hh).1]
  exact hh
theorem own_base {w : World} {base base' size n : Nat} {e : TypeId} {v : Value} {xs : List Value} (hb : base' ≤ base) (h : w.ownsRow base e size v n xs) : w.ownsRow base' e size v n xs := by
 refine ⟨h.1, ?_⟩
 rcases h.2 with h0 | ⟨g, cap, cur, hv, hg, hh, hr⟩
 ·exact Or.inl h0
 ·exact Or.inr ⟨g, cap, cur, hv, by omega, hh, hr⟩
theorem addp (b off k : Nat) : (⟨b, off, none⟩ : Addr).add k = ⟨b, off + k, none⟩ := by
 unfold Addr.add
 split
 ·rename_i h; subst h; rfl
 ·rfl
theorem new_cell (W : World) (c : Array Value) (t : TypeId) (j : Nat) : (W.alloc (.cells c t)).cell? ⟨W.heap.size, j, none⟩ = c[j]? := by
 have e : (W.alloc (.cells c t)).heap[W.heap.size]? = some (.cells c t (0, 0)) := by show (W.heap.push _)[W.heap.size]? = _; simp
 unfold World.cell?
 simp only [e]
 rfl
theorem news_ok (c : List Value) (t : TypeId) (W : World) : ∀ j u, c[j]? = some u → (W.alloc (.cells c.toArray t)).cell? ((⟨W.heap.size, 0, none⟩ : Addr).add j) = some u := by
 intro j u hu
 rw [addp, Nat.zero_add, new_cell]
 simpa using hu
theorem step_append_own {P : Program} {w : World} {ops : Array Oper} {o : Oper} {a : Act} {K : Act → World → Prop} {Q : Exit → Act → World → Prop} {E : Prop} (hgd : o.guard = none) (s x : Operand) (t : TypeId)
 (ho : o.op = .call { callee := .builtin .append, args := #[s, x], argTypes := #[t, t] })
 (base : Nat) (e : TypeId) (i : TypeInfo) (z : Value) (size bytes : Nat) (ht : P.underlying t = some (.slice e)) (hi : P.info? e = some i) (hz : i.zero = some z)
 (hsize : i.size = size) (hby : i.bytes = bytes) (hzs : z.cells.size = size) (hsz : 0 < size)
 (v : Value) (n : Nat) (xs : List Value) (hs : a.eval s = v) (hown : w.ownsRow base e size v n xs)
 (ad : Addr) (m c : Nat) (news : List Value) (hx : a.eval x = .slice (some ad) m c) (hl : news.length = m * size) (hnews : ∀ j u, news[j]? = some u → w.cell? (ad.add j) = some u) (h1 : ∀ u ∈ news, u.oneCell' = true)
 (h63 : n + m ≤ maxLen) (hbytes : (n + m) * bytes ≤ 140737488355328) (hbase : base ≤ w.heap.size)
 (h : ∀ v' w', w'.ownsRow base e size v' (n + m) (xs ++ news) → w.grownBy w' v.ownBlock → (v' = .slice none 0 0 ↔ v = .slice none 0 0 ∧ m = 0) → K (a.put o.dst v') w') :
 if Region.wanted o (yielded ops a.tmps) = true then Oper.wp P o a w K Q else E := by
 have hw : Region.wanted o (yielded ops a.tmps) = true := by simp [Region.wanted, hgd]
 rw [if_pos hw]
 exact wp_append_own w s x t ho base e i z size bytes ht hi hz hsize hby hzs hsz v n xs hs hown ad m c news hx hl hnews h1 h63 hbytes hbase h
structure Sg (w : World) (s : ByteArray) (R : Lx) (W : World) (v : Value) (a : Nat) (T : List (Tk × Nat)) : Prop where
 b : Below w.heap.size w W
 z : w.heap.size + 2 ≤ W.heap.size
 cs : W.cell? ⟨w.heap.size, 0, none⟩ = some (.string s)
 ca : W.cell? ⟨w.heap.size + 1, 0, none⟩ = some (.int .i64 (a : Int))
 fa : W.frozen? ⟨w.heap.size + 1, 0, none⟩ = false
 o : W.ownsRow (w.heap.size + 2) 95 4 v T.length (cellsT T)
 le : a ≤ s.size
 n : T.length ≤ a
 lx : ∃ f, s.size - a < f ∧ Lx.app T (lexN f (s.data.toList.drop a) a) = R
def Jm (w : World) (s : ByteArray) (R : Lx) (a' : Act) (W : World) : Prop :=
 ∃ (v : Value) (a : Nat) (T : List (Tk × Nat)) (u6 u7 u8 u9 u10 u11 u12 u13 u14 u15 u16 u17 u18 u19 u20 u21 u22 u23 u24 u25 u26 u27 u28 u29 u30 u31 u32 u33 u34 u35 u36 u37 u38 u39 u40 u41 u42 u43 u44 u45 u46 u47 u48 u49 u50 u51 u52 u53 u54 u55 u56 u57 u58 u59 u60 u61 u62 u63 u64 u65 u66 : Value), a' = { tmps := #[.string s, .pointer (some ⟨w.heap.size, 0, none⟩), v, .pointer (some ⟨w.heap.size + 1, 0, none⟩), .nilIface, .func (.func 88) #[] #[.pointer (some ⟨w.heap.size + 1, 0, none⟩), .pointer (some ⟨w.heap.size, 0, none⟩)], u6, u7, u8, u9, u10, u11, u12, u13, u14, u15, u16, u17, u18, u19, u20, u21, u22, u23, u24, u25, u26, u27, u28, u29, u30, u31, u32, u33, u34, u35, u36, u37, u38, u39, u40, u41, u42, u43, u44, u45, u46, u47, u48, u49, u50, u51, u52, u53, u54, u55, u56, u57, u58, u59, u60, u61, u62, u63, u64, u65, u66], defers := [] } ∧ Sg w s R W v a T
def ScanP (s : ByteArray) (w : World) (R : Lx) (e : Ending) (w' : World) : Prop := (match R with
      | .er e0 a => e = .returned (.tuple #[.slice none 0 0, .int .i64 (a : Int), .iface 28 (.int .i64 (e0 : Int))])
      | .ok T => ∃ v, e = .returned (.tuple #[v, .int .i64 (s.size : Int), .nilIface]) ∧ w'.ownsRow w.heap.size 95 4 v T.length (cellsT T)) ∧ Below w.heap.size w w'
theorem wp_scope_jumps' {P : Program} {a : Act} {w : World} {Q : Exit → Act → World → Prop} {c rest : Code} (l : Nat) (J : Act → World → Prop) (μ : Act → World → Nat) (hf : findLabel c l = some (.seq .skip rest))
 (pass : ∀ a w, J a w → rest.wp P (Exit.jump l (fun a' w' => J a' w' ∧ μ a' w' < μ a w) Q) a w)
 (first : (∀ a w, J a w → rest.wp P (Exit.jump l J Q) a w) → c.wp P (Exit.jump l J Q) a w) : (Code.scope c).wp P Q a w :=
 wp_scope_jumps l J μ hf (first fun a w h => wp_mono (pass a w h) fun e a' w' hq => by
  cases e with
  | goto l' => exact ⟨hq.1, hq.2.1⟩
  | _ => exact hq) fun a w h => wp_seq (wp_skip (pass a w h))
def muA (s : ByteArray) (W : World) (b : Nat) : Nat := match W.cell? ⟨b, 0, none⟩ with | some (.int _ z) => s.size - z.toNat | _ => 0
theorem muA_at {s : ByteArray} {W : World} {b a : Nat} (h : W.cell? ⟨b, 0, none⟩ = some (.int .i64 (a : Int))) : muA s W b = s.size - a := by
 unfold muA; rw [h]; simp
theorem sg_set {w W : World} {v : Value} {n : Nat} {xs : List Value} {s : ByteArray} {u : Value} (hB : Below w.heap.size w W) (hz : w.heap.size + 2 ≤ W.heap.size) (cs : W.cell? ⟨w.heap.size, 0, none⟩ = some (.string s))
 (ca : W.cell? ⟨w.heap.size + 1, 0, none⟩ = some u) (fa : W.frozen? ⟨w.heap.size + 1, 0, none⟩ = false) (ho : W.ownsRow (w.heap.size + 2) 95 4 v n xs) (x : Value) :
 Below w.heap.size w (W.setCell ⟨w.heap.size + 1, 0, none⟩ x) ∧ w.heap.size + 2 ≤ (W.setCell ⟨w.heap.size + 1, 0, none⟩ x).heap.size ∧ (W.setCell ⟨w.heap.size + 1, 0, none⟩ x).cell? ⟨w.heap.size, 0, none⟩ = some (.string s) ∧
 (W.setCell ⟨w.heap.size + 1, 0, none⟩ x).cell? ⟨w.heap.size + 1, 0, none⟩ = some x ∧ (W.setCell ⟨w.heap.size + 1, 0, none⟩ x).frozen? ⟨w.heap.size + 1, 0, none⟩ = false ∧ (W.setCell ⟨w.heap.size + 1, 0, none⟩ x).ownsRow (w.heap.size + 2) 95 4 v n xs :=
 ⟨hB.setCell (by simp) _, by simp [World.setCell]; omega, by rw [World.cell?_setCell_other _ _ _ _ (by simp)]; exact cs, World.cell?_setCell_same _ _ _ ca, by rw [World.frozen?_setCell]; exact fa, ownsRow_setCell_below ho (by simp only; omega) _⟩
theorem scan_any (s : ByteArray) (R : Lx) (w : World) (hs : s.size ≤ 16384) (hT : Tb w) (hR : lexN (s.size + 1) s.data.toList 0 = R) :
 Calls Tryz.prog 60 #[.string s] w (ScanP s w R) := by
 have HR := Lib.hid hR
 clear hR
 obtain ⟨i0, hi, hz0, hz1, hz2⟩ := info_parts infoT
 go_enter Tryz.func60, Tryz.ntmps60
 go_wp2
 refine wp_scope_jumps' 0 (Jm w s R) (fun _ W => muA s W (w.heap.size + 1)) rfl ?_ ?_
 ·rintro a' W ⟨v, a, T, u6, u7, u8, u9, u10, u11, u12, u13, u14, u15, u16, u17, u18, u19, u20, u21, u22, u23, u24, u25, u26, u27, u28, u29, u30, u31, u32, u33, u34, u35, u36, u37, u38, u39, u40, u41, u42, u43, u44, u45, u46, u47, u48, u49, u50, u51, u52, u53, u54, u55, u56, u57, u58, u59, u60, u61, u62, u63, u64, u65, u66, rfl, h⟩
  obtain ⟨hB, hz, cs, ca, fa, ho, hle, hn, hx⟩ := h
  have HX := Lib.hid hx
  clear hx
  have HMU := Lib.hid (muA_at (s := s) ca)
  generalize muA s W (w.heap.size + 1) = mu0 at *
  have hT1 := tog_blank s a (w.heap.size + 1) w.heap.size W.drew hs hle ca cs
  have hcut := span_le isB s a hle
  have hez := ext_sz s a (spanL isB s a) hcut
  obtain ⟨a1, ha1⟩ : ∃ n, n = a + spanL isB s a := ⟨_, rfl⟩
  obtain ⟨B, hB0⟩ : ∃ B, B = s.extract a (a + spanL isB s a) := ⟨_, rfl⟩
  rw [← hB0] at hT1 hez
  have hwr : IntKind.i64.wrap ((a : Int) + (B.size : Int)) = (a1 : Int) := by rw [hez, ha1, IntWalk.i64_in _ (by omega)]; omega
  rw [← ha1] at hcut
  have HA1 := Lib.hid ha1
  clear hB0 hez ha1
  have hT1' : Calls Tryz.prog 88 #[.func (.func 89) #[] #[], .pointer (some ⟨w.heap.size + 1, 0, none⟩), .pointer (some ⟨w.heap.size, 0, none⟩)] W.drew fun e w' => e = .returned (.string B) ∧ w' = W.drew := hT1.mono fun e w' h => ⟨h.1, h.2.symm⟩
  clear hT1
  go_wp2
  refine wp_region_still_tail 5 (by kernel_rfl) (by kernel_rfl) ?_
  simp only [List.take_succ_cons, List.take_zero, List.drop_succ_cons, List.drop_zero]
  still_step
  still_step
  still_call hT1'
  still_step
  still_step
  refine wpStill_nil ?_
  change wpList _ _ _ _ _ W.drew
  clear hwr hT1'
  obtain ⟨hB1, hz1', cs1, ca1, fa1, ho1⟩ := sg_set hB.drew hz cs ca fa ho.drew (.int .i64 (a1 : Int))
  have fa' : W.drew.frozen? ⟨w.heap.size + 1, 0, none⟩ = false := fa
  have ca' : W.drew.cell? ⟨w.heap.size + 1, 0, none⟩ = some (.int .i64 (a : Int)) := ca
  obtain ⟨W1, hW1⟩ : ∃ X, W.drew.setCell ⟨w.heap.size + 1, 0, none⟩ (.int .i64 (a1 : Int)) = X := ⟨_, rfl⟩
  rw [hW1] at hB1 hz1' cs1 ca1 fa1 ho1
  have ga1 : w.heap.size + 1 < W1.heap.size := by omega
  have gs1 : w.heap.size < W1.heap.size := by omega
  have hT1 : Tb W1 := hT.of hB1
  clear hB hz cs ca fa ho
  by_cases hend : a1 = s.size
  ·subst hend
   go_wp2
   have hF0 : W1.cell? ⟨w.heap.size + 1, 0, none⟩ = some (.int .i64 (s.size : Int)) := ca1
   refine region_KN (fun w' => w'.cell? ⟨w.heap.size + 1, 0, none⟩ = some (.int .i64 (s.size : Int))) (by kernel_rfl) ?_
   have q : Pq [0, 1, 2, 5] := trivial
   iterate 4
    refine tkN q rfl (by kernel_rfl) hF0 fun K hK => ?_
    replace q := q.tl
    apply Exists.intro
    refine ⟨Or.inl ⟨by kernel_rfl, fun w' hf => ?_⟩, ?_⟩
    ·have s0 : w'.cell? ⟨w.heap.size + 1, 0, none⟩ = some (.int .i64 (s.size : Int)) := hf
     go_simp
     try exact rfl
    go_simp
    refine hK _ ?_
    clear hK K
   refine wpAnyK_one (k := 3) (by kernel_rfl) ?_
   refine wpOp_step rfl (fun K hK => ?_)
   go_simp
   have hBn : Below w.heap.size w (W1.drew.alloc (.cells #[.int .u8 5, .string ⟨#[]⟩, .int .u64 0, .int .i64 (s.size : Int)] 95)) := hB1.drew.alloc (Nat.le_of_lt gs1) _
   have hFn : (W1.drew.alloc (.cells #[.int .u8 5, .string ⟨#[]⟩, .int .u64 0, .int .i64 (s.size : Int)] 95)).cell? ⟨w.heap.size + 1, 0, none⟩ = some (.int .i64 (s.size : Int)) := stay ((Below.refl _ _).drew.alloc (Nat.le_refl _) _) ca1
   refine hK _ _ ⟨hFn, ?_⟩
   clear hK K
   refine wpAnyK_one (k := 4) (by kernel_rfl) ?_
   refine wpOp_step rfl (fun K hK => ?_)
   refine step_append_own rfl (.tmp 23) (.tmp 26) 62 rfl (w.heap.size + 2) 95 i0 _ 4 40 Tryz.underlying62 hi hz0 hz1 hz2 rfl (by decide) v T.length (cellsT T) rfl (own_of ho1 ((Below.refl _ _).drew.alloc (Nat.le_refl _) _)) ⟨W1.heap.size, 0, none⟩ 1 1 [.int .u8 5, .string ⟨#[]⟩, .int .u64 0, .int .i64 (s.size : Int)] rfl rfl (news_ok [.int .u8 5, .string ⟨#[]⟩, .int .u64 0, .int .i64 (s.size : Int)] 95 W1.drew) (by intro u hu; simp at hu; rcases hu with rfl | rfl | rfl | rfl <;> rfl) (by unfold maxLen; omega) (by omega) (by simp; omega) ?_
   intro v2 W3 ho3 hgr hnil
   have hB3 : Below (w.heap.size + 2) (W1.drew.alloc (.cells #[.int .u8 5, .string ⟨#[]⟩, .int .u64 0, .int .i64 (s.size : Int)] 95)) W3 := (Below.refl _ _).grown hgr (by simp; omega) (fun j hj => (ho1.lt j hj).1)
   have hF3 : W3.cell? ⟨w.heap.size + 1, 0, none⟩ = some (.int .i64 (s.size : Int)) := (hB3.cell (by simp)).trans hFn
   have hf3 : W3.frozen? ⟨w.heap.size + 1, 0, none⟩ = false := (hB3.frozen (by simp)).trans (by rw [World.frozen?_alloc_old _ _ _ (by simp; omega)]; exact fa1)
   have hB3w : Below w.heap.size w W3 := hBn.trans (hB3.mono (by omega))
   have hz3 : w.heap.size + 2 ≤ W3.heap.size := by have := hB3.size; simp at this; omega
   clear hgr hnil
   refine hK _ _ ⟨hF3, ?_⟩
   clear hK K
   refine wpAnyK_one (k := 6) (by kernel_rfl) ?_
   refine wpOp_step rfl (fun K hK => ?_)
   go_simp
   refine hK _ _ ⟨hF3, ?_⟩
   clear hK K
   refine wpAnyK_one (k := 7) (by kernel_rfl) ?_
   refine wpOp_step rfl (fun K hK => ?_)
   obtain ⟨hB4, hz4, cs4, ca4, fa4, ho4⟩ := sg_set hB3w hz3 ((hB3.cell (by simp)).trans (stay ((Below.refl _ _).drew.alloc (Nat.le_refl _) _) cs1)) hF3 hf3 ho3 (.int .i64 (s.size : Int))
   have hl3 : w.heap.size + 1 < W3.heap.size := by omega
   go_simp
   refine hK _ _ ⟨ca4, ?_⟩
   clear hK K
   refine wpAnyK_one (k := 8) (by kernel_rfl) ?_
   refine wpOp_step rfl (fun K hK => ?_)
   go_simp
   refine hK _ _ ⟨ca4, ?_⟩
   clear hK K
   refine wpAnyK_done (by kernel_rfl) ⟨rfl, ?_⟩
   go_wp2
   simp only [Exit.jump]
   refine bodyPost_ret (v := .tuple #[v2, .int .i64 (s.size : Int), .nilIface]) (by simp [results, Tryz.results60, go_sem, ca4]) rfl ?_
   have hRe : R = .ok (T ++ [(⟨5, [], 0⟩, s.size)]) := by
    obtain ⟨f, hf, hx⟩ := HX.out
    obtain ⟨f, rfl⟩ : ∃ g, f = g + 1 := ⟨f - 1, by omega⟩
    rw [← hx, lexA_end s f a HA1.out.symm, app_ok]
   rw [hRe]
   refine ⟨⟨v2, rfl, ?_⟩, hB4⟩
   rw [List.length_append, cellsT_snoc]
   exact own_base (by omega) ho4
  ·have hlt : a1 < s.size := by omega
   have hne : ((a1 : Int) == (s.size : Int)) = false := by simp only [beq_eq_false_iff_ne]; omega
   have hL := letter_any (s[a1]'hlt)
   have hD := digit_any (s[a1]'hlt)
   have htk := tok_at s a1 hlt
   clear hend
   by_cases hcL : isL (s[a1]'hlt) = true
   case' pos =>
    rw [hcL] at hL
    rw [if_pos hcL] at htk
    clear hcL
    have hcut2 := span_le isLD s a1 (Nat.le_of_lt hlt)
    have hel := ext_span isLD s a1 hcut2
    have hpz := ext_sz s a1 (spanL isLD s a1) hcut2
    have hT2 := tog_ld s a1 (w.heap.size + 1) w.heap.size W1 hs (Nat.le_of_lt hlt) ca1 cs1
    rw [← hel] at htk
    obtain ⟨P, hP0⟩ : ∃ P, P = s.extract a1 (a1 + spanL isLD s a1) := ⟨_, rfl⟩
    rw [← hP0] at hT2 hpz htk
    have hPs : P.size ≤ 16384 := by omega
    clear hP0 hpz hcut2 hel
    have hNe := fun e0 (h : nameP P.data.toList = .er e0) => named_er P e0 h hPs W1
    have hNo := fun t m (h : nameP P.data.toList = .ok t m) => named_ok P t m h hPs W1 hT1.words
    have hPm := fun t m (h : nameP P.data.toList = .ok t m) => (nameP_ok h).1
    generalize nameP P.data.toList = pf at htk hNe hNo hPm
   case' neg =>
    rw [if_neg hcL] at htk
    have hcL' : isL (s[a1]'hlt) = false := by simpa using hcL
    rw [hcL'] at hL
    clear hcL hcL'
    by_cases hcD : isD (s[a1]'hlt) = true
    case' pos =>
     rw [hcD] at hD
     rw [if_pos hcD] at htk
     clear hcD
     have hcut2 := span_le isD s a1 (Nat.le_of_lt hlt)
     have hel := ext_span isD s a1 hcut2
     have hpz := ext_sz s a1 (spanL isD s a1) hcut2
     have hT2 := tog_digit s a1 (w.heap.size + 1) w.heap.size W1 hs (Nat.le_of_lt hlt) ca1 cs1
     rw [← hel] at htk
     obtain ⟨P, hP0⟩ : ∃ P, P = s.extract a1 (a1 + spanL isD s a1) := ⟨_, rfl⟩
     rw [← hP0] at hT2 hpz htk
     have hPs : P.size ≤ 16384 := by omega
     clear hP0 hpz hcut2 hel
     have hNe := fun e0 (h : numP P.data.toList = .er e0) => number_er P e0 h hPs W1 hT1
     have hNo := fun t m (h : numP P.data.toList = .ok t m) => number_ok P t m h hPs W1 hT1
     have hPm := fun t m (h : numP P.data.toList = .ok t m) => (numP_ok h).1
     generalize numP P.data.toList = pf at htk hNe hNo hPm
    case' neg =>
     rw [if_neg hcD] at htk
     have hcD' : isD (s[a1]'hlt) = false := by simpa using hcD
     rw [hcD'] at hD
     clear hcD hcD'
     have hex := ext_tail s a1 (Nat.le_of_lt hlt)
     have htl := tail_run s a1 (Nat.le_of_lt hlt)
     obtain ⟨Y, hY⟩ : ∃ Y, Y = s.extract a1 s.size := ⟨_, rfl⟩
     rw [← hY] at hex htl
     have hT2 := longestSign_any Y W1 hT1.signs
     rw [hex] at hT2
     obtain ⟨P, hP0⟩ : ∃ P, P = str (ls (s.data.toList.drop a1)) := ⟨_, rfl⟩
     rw [← hP0] at hT2
     have hPl : P.data.toList = ls (s.data.toList.drop a1) := by rw [hP0, str_list]
     rw [← hPl] at htk
     have hPs : P.size ≤ 16384 := by
      have h1 := (ls_at (s.data.toList.drop a1)).2.1.length_le
      have h2 : P.data.toList.length = P.size := by simp
      rw [hPl] at h2
      simp at h1
      have h3 : s.data.size = s.size := rfl
      omega
     clear hP0 hY hex hPl
     have hNe := fun e0 (h : signP P.data.toList = .er e0) => sign_er P e0 h W1
     have hNo := fun t m (h : signP P.data.toList = .ok t m) => sign_ok P t m h W1
     have hPm := fun t m (h : signP P.data.toList = .ok t m) => (signP_ok h).1
     generalize signP P.data.toList = pf at htk hNe hNo hPm
   all_goals
    cases pf with
    | er e0 =>
     have hN := hNe e0 rfl
     have HTK := Lib.hid htk
     clear htk hNe hNo hPm
     go_wp2_with (first | (go_at_call 90; ((with_reducible refine (hL _).mono ?_); rintro e w9 ⟨rfl, rfl⟩)) | (go_at_call 93; ((with_reducible refine (hD _).mono ?_); rintro e w9 ⟨rfl, rfl⟩)) | (go_at_call 88; ((with_reducible refine hT2.mono ?_); rintro e w9 ⟨rfl, rfl⟩)) | ((first | go_at_call 92 | go_at_call 94 | go_at_call 96); ((with_reducible refine hN.mono ?_); (rintro e w2 ⟨rfl, hb2⟩); have hB2 := hB1.trans (hb2.mono (Nat.le_of_lt gs1)); have hz2 : w.heap.size + 2 ≤ w2.heap.size := (by have := hb2.size; omega); have ga2 : w.heap.size + 1 < w2.heap.size := (by omega); have ca2 := stay hb2 ca1; have cs2 := stay hb2 cs1; have fa2 : w2.frozen? ⟨w.heap.size + 1, 0, none⟩ = false := ((hb2.frozen ga1).trans fa1); have ho2 := own_of ho1 hb2)) | (go_at_call 95; ((with_reducible refine hT2.mono ?_); rintro e w9 ⟨rfl, rfl⟩)))
     have hF0 : (w2.alloc (.cells #[.int .u8 0, .string ⟨#[]⟩, .int .u64 0, .int .i64 0] 95)).cell? ⟨w.heap.size + 1, 0, none⟩ = some (.int .i64 (a1 : Int)) := stay ((Below.refl _ _).alloc (Nat.le_refl _) _) ca2
     have fF0 : (w2.alloc (.cells #[.int .u8 0, .string ⟨#[]⟩, .int .u64 0, .int .i64 0] 95)).frozen? ⟨w.heap.size + 1, 0, none⟩ = false := by rw [World.frozen?_alloc_old _ _ _ (Nat.ne_of_lt ga2)]; exact fa2
     have hBF : Below w.heap.size w (w2.alloc (.cells #[.int .u8 0, .string ⟨#[]⟩, .int .u64 0, .int .i64 0] 95)) := hB2.alloc (by omega) _
     obtain ⟨W5, hW5⟩ : ∃ X, w2.alloc (.cells #[.int .u8 0, .string ⟨#[]⟩, .int .u64 0, .int .i64 0] 95) = X := ⟨_, rfl⟩
     rw [hW5] at hF0 fF0 hBF ⊢
     clear hW5
     refine region_KN (fun w' => w'.cell? ⟨w.heap.size + 1, 0, none⟩ = some (.int .i64 (a1 : Int))) (by kernel_rfl) ?_
     have q : Pq [0, 1, 2] := trivial
     iterate 3
      refine tkN q rfl (by kernel_rfl) hF0 fun K hK => ?_
      replace q := q.tl
      apply Exists.intro
      refine ⟨Or.inl ⟨by kernel_rfl, fun w' hf => ?_⟩, ?_⟩
      ·have s0 : w'.cell? ⟨w.heap.size + 1, 0, none⟩ = some (.int .i64 (a1 : Int)) := hf
       go_simp
       try exact rfl
      go_simp
      refine hK _ ?_
      clear hK K
     refine wpAnyK_one (k := 3) (by kernel_rfl) ?_
     refine wpOp_step rfl (fun K hK => ?_)
     have ca6 : (W5.drew.setCell ⟨w.heap.size + 1, 0, none⟩ (.int .i64 (a1 : Int))).cell? ⟨w.heap.size + 1, 0, none⟩ = some (.int .i64 (a1 : Int)) := World.cell?_setCell_same _ _ _ hF0
     have ca7 : (W5.setCell ⟨w.heap.size + 1, 0, none⟩ (.int .i64 (a1 : Int))).cell? ⟨w.heap.size + 1, 0, none⟩ = some (.int .i64 (a1 : Int)) := World.cell?_setCell_same _ _ _ hF0
     have fF1 : W5.drew.frozen? ⟨w.heap.size + 1, 0, none⟩ = false := fF0
     have hF1 : W5.drew.cell? ⟨w.heap.size + 1, 0, none⟩ = some (.int .i64 (a1 : Int)) := hF0
     go_simp
     refine hK _ _ ⟨ca6, ?_⟩
     clear hK K
     refine wpAnyK_one (k := 4) (by kernel_rfl) ?_
     refine wpOp_step rfl (fun K hK => ?_)
     go_simp
     refine hK _ _ ⟨ca6, ?_⟩
     clear hK K
     refine wpAnyK_done (by kernel_rfl) ⟨rfl, ?_⟩
     go_wp2
     simp only [Exit.jump]
     refine bodyPost_ret (v := .tuple #[.slice none 0 0, .int .i64 (a1 : Int), .iface 28 (.int .i64 (e0 : Int))]) (by simp [results, Tryz.results60, go_sem, ca7]) rfl ?_
     have hRe : R = .er e0 a1 := by
      obtain ⟨f, hf, hx⟩ := HX.out
      obtain ⟨f, rfl⟩ : ∃ g, f = g + 1 := ⟨f - 1, by omega⟩
      rw [← hx, lexA_er s f a e0 (by rw [← HA1.out]; exact hlt) (by rw [← HA1.out]; exact HTK.out), app_er, ← HA1.out]
     rw [hRe]
     exact ⟨rfl, hBF.drew.setCell (by simp) _⟩
    | ok t m =>
     have hN := hNo t m rfl
     have hmP : m = P.data.toList := hPm t m rfl
     have hml : m.length = P.size := by rw [hmP]; simp
     have htl2 := tok_len htk
     rw [hml, List.length_drop] at htl2
     have hsl : s.data.toList.length = s.size := by simp
     rw [hsl] at htl2
     obtain ⟨htl3, htl4⟩ := htl2
     have HTK := Lib.hid htk
     have HML := Lib.hid hml
     clear htk hNe hNo hPm hmP hml hsl
     go_wp2_with (first | (go_at_call 90; ((with_reducible refine (hL _).mono ?_); rintro e w9 ⟨rfl, rfl⟩)) | (go_at_call 93; ((with_reducible refine (hD _).mono ?_); rintro e w9 ⟨rfl, rfl⟩)) | (go_at_call 88; ((with_reducible refine hT2.mono ?_); rintro e w9 ⟨rfl, rfl⟩)) | ((first | go_at_call 92 | go_at_call 94 | go_at_call 96); ((with_reducible refine hN.mono ?_); (rintro e w2 ⟨rfl, hb2⟩); have hB2 := hB1.trans (hb2.mono (Nat.le_of_lt gs1)); have hz2 : w.heap.size + 2 ≤ w2.heap.size := (by have := hb2.size; omega); have ga2 : w.heap.size + 1 < w2.heap.size := (by omega); have ca2 := stay hb2 ca1; have cs2 := stay hb2 cs1; have fa2 : w2.frozen? ⟨w.heap.size + 1, 0, none⟩ = false := ((hb2.frozen ga1).trans fa1); have ho2 := own_of ho1 hb2)) | (go_at_call 95; ((with_reducible refine hT2.mono ?_); rintro e w9 ⟨rfl, rfl⟩)) | (at_builtin; refine wpList_append_own _ rfl _ _ 62 rfl (w.heap.size + 2) 95 i0 _ 4 40 Tryz.underlying62 hi hz0 hz1 (by assumption) rfl (by decide) v T.length (cellsT T) rfl ((ho2.alloc _).alloc _) ⟨w2.heap.size + 1, 0, none⟩ 1 1 [.int .u8 (t.k : Int), .string (str t.t), .int .u64 (t.n : Int), .int .i64 (a1 : Int)] rfl rfl ?cN ?c0 ?c1 ?c2 ?c3 ?_))
     case cN =>
      have hN2 := news_ok [.int .u8 (t.k : Int), .string (str t.t), .int .u64 (t.n : Int), .int .i64 (a1 : Int)] 95 (w2.alloc (.cells #[.int .u8 (t.k : Int), .string (str t.t), .int .u64 (t.n : Int), .int .i64 (a1 : Int)] 95))
      rw [World.size_alloc] at hN2
      exact hN2
     case c0 => intro u hu; simp at hu; rcases hu with rfl | rfl | rfl | rfl <;> rfl
     case c1 => unfold maxLen; omega
     case c2 => omega
     case c3 => simp; omega
     intro v3 w5 ho5 hgr hnil
     have hA0 : Below w2.heap.size w2 ((w2.alloc (.cells #[.int .u8 (t.k : Int), .string (str t.t), .int .u64 (t.n : Int), .int .i64 (a1 : Int)] 95)).alloc (.cells #[.int .u8 (t.k : Int), .string (str t.t), .int .u64 (t.n : Int), .int .i64 (a1 : Int)] 95)) := ((Below.refl _ _).alloc (Nat.le_refl _) _).alloc (by simp) _
     have hB5 : Below (w.heap.size + 2) ((w2.alloc (.cells #[.int .u8 (t.k : Int), .string (str t.t), .int .u64 (t.n : Int), .int .i64 (a1 : Int)] 95)).alloc (.cells #[.int .u8 (t.k : Int), .string (str t.t), .int .u64 (t.n : Int), .int .i64 (a1 : Int)] 95)) w5 := (Below.refl _ _).grown hgr (by simp; omega) (fun j hj => (ho2.lt j hj).1)
     have hB25 : Below (w.heap.size + 2) w2 w5 := (hA0.mono hz2).trans hB5
     have hB5w : Below w.heap.size w w5 := hB2.trans (hB25.mono (by omega))
     have hz5 : w.heap.size + 2 ≤ w5.heap.size := by have := hB25.size; omega
     have ca5 := (hB25.cell (p := ⟨w.heap.size + 1, 0, none⟩) (by simp)).trans ca2
     have cs5 := (hB25.cell (p := ⟨w.heap.size, 0, none⟩) (by simp)).trans cs2
     have fa5 := (hB25.frozen (p := ⟨w.heap.size + 1, 0, none⟩) (by simp)).trans fa2
     have ga5 : w.heap.size + 1 < w5.heap.size := by omega
     clear hgr hnil hB5 hA0 hN hL hD hT2
     go_wp2
     go_step3
     obtain ⟨hB6, hz6, cs6, ca6, fa6, ho6⟩ := sg_set hB5w hz5 cs5 ca5 fa5 ho5 (.int .i64 ((a1 + P.size : Nat) : Int))
     have e6 : (((a1 + P.size : Nat) : Int)) = (a1 : Int) + (P.size : Int) := by omega
     refine ⟨rfl, ⟨v3, a1 + P.size, T ++ [(t, a1)], _, _, _, _, _, _, _, _, _, _, _, _, _, _, _, _, _, _, _, _, _, _, _, _, _, _, _, _, _, _, _, _, _, _, _, _, _, _, _, _, _, _, _, _, _, _, _, _, _, _, _, _, _, _, _, _, _, _, _, _, _, rfl, ?_⟩, ?_⟩
     ·refine ⟨hB6, hz6, cs6, ca6, fa6, ?_, by omega, ?_, ?_⟩
      ·rw [List.length_append, cellsT_snoc]; exact ho6
      ·have := HA1.out; simp only [List.length_append, List.length_cons, List.length_nil]; omega
      ·obtain ⟨f, hf, hx⟩ := HX.out
       obtain ⟨f, rfl⟩ : ∃ g, f = g + 1 := ⟨f - 1, by omega⟩
       have hA1 := HA1.out
       refine ⟨f, by omega, ?_⟩
       rw [← hx, lexA_ok s f a t m (by rw [← hA1]; exact hlt) (by rw [← hA1]; exact HTK.out), app_pre, ← hA1, HML.out]
     ·have hm := muA_at (s := s) ca6; rw [e6] at hm; rw [hm, HMU.out]; have := HA1.out; omega
 ·intro hp
  go_wp2
  go_step3
  rename_i K hK
  refine hK _ _ (hp _ _ ⟨_, 0, [], _, _, _, _, _, _, _, _, _, _, _, _, _, _, _, _, _, _, _, _, _, _, _, _, _, _, _, _, _, _, _, _, _, _, _, _, _, _, _, _, _, _, _, _, _, _, _, _, _, _, _, _, _, _, _, _, _, _, _, _, _, rfl, ?_⟩)
  exact ⟨((Below.refl _ _).alloc (Nat.le_refl _) _).alloc (by simp) _, by simp, by rw [World.cell?_alloc_lt _ _ ⟨w.heap.size, 0, none⟩ (by simp)]; exact new_cell w _ _ 0, by simp, by simp, World.ownsRow_nil _ _ _ _, Nat.zero_le _, Nat.le_refl _, s.size + 1, by omega, HR.out⟩
end Go.Proofs.YtfbjljcmmbdhkaaGreatDoor
