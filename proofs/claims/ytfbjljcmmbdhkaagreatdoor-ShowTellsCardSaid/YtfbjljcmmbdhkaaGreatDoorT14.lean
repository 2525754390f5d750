/- A region that draws its order, reads taken first, then walked by what holds at each of its states; blocks of strings beside a row that grows. -/
import Derived.Test.YtfbjljcmmbdhkaaGreatDoorT12
import Derived.Test.YtfbjljcmmbdhkaaGreatDoorT01
import Derived.Test.YtfbjljcmmbdhkaaGreatDoorT11
import Derived.Test.YtfbjljcmmbdhkaaGreatDoorT13
namespace Go.Proofs.YtfbjljcmmbdhkaaGreatDoor
set_option linter.unusedVariables false
set_option linter.unusedSimpArgs false
set_option maxRecDepth 100000
set_option maxHeartbeats 200000000
open Go.ChangeShapes Go.WideShapes Go.ChangeAt Go.RowKit
theorem wpAnyK_inv {P : Program} {md : Region.Mode} {ops : Array Oper} {Q : Exit → Act → World → Prop} {F : World → Prop} (Inv : Nat → Array Bool → Act → World → Prop)
 (h : ∀ f L a w, Inv f L a w → wpAnyK P md ops Q F f L a w ∨ ∃ n, f = n + 1 ∧ Region.ready md ops L ≠ [] ∧ ∀ i ∈ Region.ready md ops L, wpOp P ops Q i (fun a' w' => F w' ∧ Inv n (L.setIfInBounds i true) a' w') a w) :
 ∀ f L a w, Inv f L a w → wpAnyK P md ops Q F f L a w := by
 intro f
 induction f with
 | zero =>
  intro L a w hi
  rcases h 0 L a w hi with h | ⟨n, hn, _⟩
  ·exact h
  ·omega
 | succ f ih =>
  intro L a w hi
  rcases h (f + 1) L a w hi with h | ⟨n, hn, hr, hs⟩
  ·exact h
  ·obtain rfl : f = n := by omega
   exact ⟨fun e => absurd e hr, fun i hm => wpOp_mono (fun a' w' hk => ⟨hk.1, ih _ _ _ hk.2⟩) (hs i hm)⟩
theorem rd {md : Region.Mode} {ops : Array Oper} {L : Array Bool} {i : Nat} {o : Oper} (h : L.getD i true = false) (ho : ops[i]? = some o) (ha : (o.after.toList.all fun e => !Region.binds md e || L.getD e.on false) = true) : i ∈ Region.ready md ops L :=
 mem_ready.2 ⟨h, o, ho, fun e he hb => by
  have := List.all_eq_true.1 ha e (by simpa using he)
  simpa [hb] using this⟩
theorem bt {b : Bool} (h : b = false → False) : b = true := by cases b with | true => rfl | false => exact (h rfl).elim
theorem bff {c : Bool} (e : c = true → false = true) : c = false := by cases c with | false => rfl | true => cases e rfl
def HasS (C : Array Value) (t : TypeId) (k : Nat) (w : World) : Prop := w.heap[k]? = some (.cells C t (0, 0))
theorem HasS.lt {C : Array Value} {t : TypeId} {k : Nat} {w : World} (h : HasS C t k w) : k < w.heap.size := (Array.getElem?_eq_some_iff.1 h).1
theorem HasS.new (C : Array Value) (t : TypeId) (w : World) : HasS C t w.heap.size (w.alloc (.cells C t)) := World.alloc_heap_new w _
theorem HasS.alloc {C : Array Value} {t : TypeId} {k : Nat} {w : World} (h : HasS C t k w) (o : Obj) : HasS C t k (w.alloc o) := (Below.heap_alloc _ _ _ h.lt).trans h
theorem HasS.below {C : Array Value} {t : TypeId} {k : Nat} {w w' : World} (h : HasS C t k w) (hb : Below w.heap.size w w') : HasS C t k w' := (hb.block _ h.lt).trans h
theorem HasS.ne {C : Array Value} {t : TypeId} {k B n : Nat} {w : World} {l : Value} {xs : List Value} (h : HasS C t k w) (ht : t ≠ 95) (ho : w.ownsRow B 95 4 l n xs) : l.ownBlock ≠ some k := fun e => by
 rcases ho.2 with ⟨h0, _⟩ | ⟨g, cap, cur, hv, hg, hh, hr⟩
 ·rw [h0] at e; cases e
 ·rw [hv] at e
  cases e
  rw [h] at hh
  cases hh
  exact ht rfl
theorem HasS.call {C : Array Value} {t : TypeId} {k B n : Nat} {w w' : World} {l : Value} {xs : List Value} (h : HasS C t k w) (ht : t ≠ 95) (ho : w.ownsRow B 95 4 l n xs) (hu : Only (fun j => l.ownBlock = some j) w w') : HasS C t k w' :=
 (hu.block _ h.lt (h.ne ht ho)).trans h
theorem HasS.cell {C : Array Value} {t : TypeId} {k : Nat} {w : World} (h : HasS C t k w) (i : Nat) : w.cell? ⟨k, i, none⟩ = C[i]? := by
 unfold World.cell?
 rw [h]
 simp
theorem hasS_strs {ss : List (List UInt8)} {t : TypeId} {k : Nat} {w : World} (h : HasS (strC ss).toArray t k w) : ∀ j (hj : j < ss.length), w.cell? ⟨k, j, none⟩ = some (.string (str ss[j])) := fun j hj => by
 rw [h.cell]
 simp [strC, hj]
theorem own_built (w : World) (B : Nat) (hB : B ≤ w.heap.size) : (w.alloc (.cells #[] 95)).ownsRow B 95 4 (.slice (some ⟨w.heap.size, 0, none⟩) 0 0) 0 [] :=
 ⟨rfl, .inr ⟨w.heap.size, 0, #[], rfl, hB, World.alloc_heap_new w _, Nat.le_refl _, by unfold maxLen; omega, rfl, rfl⟩⟩
theorem rsign_c {ss : List (List UInt8)} {K B : Nat} {W w : World} {l0 l : Value} {T : List (Tk × Int)} (n : Nat) (h : HasS (strC ss).toArray 9 K w) (hT : Tl B W w l0 l T) (hB : B ≤ w.heap.size) (hn : ss.length = n) (hl : T.length + ss.length ≤ 1000000) :
 Calls Tryz.prog 117 #[l, .slice (some ⟨K, 0, none⟩) n n] w fun r w' => ∃ l', r = .returned l' ∧ Tl B w w' l l' (T ++ zs (ss.map sg)) :=
 rsign_any ss K n B l T w hn (hasS_strs h) h.lt (h.ne (by decide) hT.own) hT.own hB hl
structure Wr (B : Nat) (w : World) : Prop where
 tb : Tb w
 le : B ≤ w.heap.size
 gb : ∀ j, GB j → j < B
theorem Wr.only {B : Nat} {S : Nat → Prop} {w w' : World} (h : Wr B w) (ho : Only S w w') (hs : ∀ j, S j → B ≤ j) : Wr B w' :=
 ⟨h.tb.only ho (fun j hj hS => by have := hs j hS; have := h.gb j hj; omega), Nat.le_trans h.le ho.size, h.gb⟩
theorem Wr.below {B : Nat} {w w' : World} (h : Wr B w) (hb : Below w.heap.size w w') : Wr B w' := h.only (only_below (S := fun _ => False) hb) (fun _ h => h.elim)
theorem own_ge {B n : Nat} {w : World} {l : Value} {xs : List Value} (h : w.ownsRow B 95 4 l n xs) : ∀ j, l.ownBlock = some j → B ≤ j := fun j hj => (own_lt h hj).1
theorem wpList_append_lies2 {P : Program} {w : World} {ops : Array Oper} {rest : List Oper} {o : Oper} {a : Act} {Q : Exit → Act → World → Prop} (hgd : o.guard = none) (s x : Operand) (t u : TypeId)
 (ho : o.op = .call { callee := .builtin .append, args := #[s, x], argTypes := #[t, u] })
 (base : Nat) (e : TypeId) (i : TypeInfo) (z : Value) (size bytes : Nat) (ht : P.underlying t = some (.slice e)) (hu : P.underlying u = some (.slice e)) (hi : P.info? e = some i) (hz : i.zero = some z)
 (hsize : i.size = size) (hby : i.bytes = bytes) (hzs : z.cells.size = size) (hsz : 0 < size)
 (v : Value) (n : Nat) (xs : List Value) (hs : a.eval s = v) (hown : w.ownsRow base e size v n xs)
 (ad : Addr) (m c : Nat) (news : List Value) (hx : a.eval x = .slice (some ad) m c) (hl : news.length = m * size) (hnews : ∀ j u, news[j]? = some u → w.cell? (ad.add j) = some u) (h1 : ∀ u ∈ news, u.oneCell' = true)
 (hm : 0 < m) (h63 : n + m ≤ maxLen) (hbytes : (n + m) * bytes ≤ 140737488355328) (hbase : base ≤ w.heap.size) (H : Nat) (hH : w.heap.size = H)
 (h : ∀ g cap w', w'.ownsRow base e size (.slice (some ⟨g, 0, none⟩) (n + m) cap) (n + m) (xs ++ news) → w.grownBy w' v.ownBlock → (v.ownBlock = some g ∨ g = H) → g < w'.heap.size → wpList P ops Q rest (a.put o.dst (.slice (some ⟨g, 0, none⟩) (n + m) cap)) w') : wpList P ops Q (o :: rest) a w := by
 refine wpList_plain hgd fun K hK => ?_
 obtain ⟨g, cap, w', hr, h2, h3, h4, h5⟩ := run_append_lies (P := P) w t o.type base e i z size bytes ht hi hz hsize hby hzs hsz v n xs hown ad m c news hl hnews h1 hm h63 hbytes hbase H hH
 obtain ⟨sa, sc, rfl⟩ : ∃ sa sc, v = .slice sa n sc := by
  rcases hown.2 with ⟨rfl, rfl⟩ | ⟨g, cap, cur, rfl, _⟩
  ·exact ⟨_, _, rfl⟩
  ·exact ⟨_, _, rfl⟩
 rw [← append_tu ht hu] at hr
 unfold Oper.wp execOp
 simp only [ho, resolve, invoke, builtin, Sem.run_bind, Sem.run_pure, Result.andThen_ok, List.map_toArray, List.map_cons, List.map_nil, hs, hx, hr]
 exact hK _ _ (h g cap w' h2 h3 h4 h5)
theorem xpT_pos {d : Nat} {e : Xp} (h : mayB d e = true) : 0 < (tellF d e).length := by
 cases d with
 | zero => simp [mayB] at h
 | succ d =>
  obtain ⟨k, n, s, o, l⟩ := e
  rw [mayB, Bool.and_eq_true] at h
  rcases fit_k h.1 with rfl | rfl | rfl | rfl | rfl
  ·simp [tellF]
  ·simp [tellF]
  ·obtain ⟨rfl, rfl, ho, hm⟩ := fit3 h.1
   match l, hm with
   | [a, b], _ => simp [tellF]
  ·simp [tellF]
  ·obtain ⟨rfl, hn, rfl, hm⟩ := fit5 h.1
   match l, hm with
   | [a], _ => simp [tellF]
theorem rsecret_any (b : Bool) (B : Nat) (l : Value) (T : List (Tk × Int)) (w : World) (ho : w.ownsRow B 95 4 l T.length (cellsZ T)) (hB : B ≤ w.heap.size) (hl : T.length ≤ 1000000) :
 Calls Tryz.prog 121 #[l, .bool b] w fun r w' => ∃ l', r = .returned l' ∧ Tl B w w' l l' (T ++ zs (secT b)) := by
 have hc := rword_any wSecret B l T w ho hB hl
 rw [show str wSecret = { data := #[115, 101, 99, 114, 101, 116] } from rfl] at hc
 cases b
 ·go_enter Tryz.func121, Tryz.ntmps121
  go_wp2
  go_ret
  exact ⟨_, rfl, by simpa [secT, zs] using Tl.refl ho⟩
 ·go_enter Tryz.func121, Tryz.ntmps121
  go_wp2_with (go_at_call 115; ((with_reducible refine hc.mono ?_); (rintro e w1 ⟨l1, rfl, hT⟩)))
  go_ret
  exact ⟨_, rfl, hT⟩
theorem rexpr_any (e : Xp) (v : Value) (B : Nat) (l : Value) (T : List (Tk × Int)) (w : World) (hE : IsE (fun b => b < B) w v e) (hW : Wr B w) (hm : mayB 40 e = true) (hn : e.nodes ≤ 100000) (ho : w.ownsRow B 95 4 l T.length (cellsZ T)) (hl : T.length + (xpT e).length ≤ 1000000) :
 Calls Tryz.prog 122 #[l, v] w fun r w' => ∃ l', r = .returned l' ∧ Tl B w w' l l' (T ++ zs (xpT e)) := by
 obtain ⟨i0, hi, hz0, hz1, hz2⟩ := info_parts infoT
 have hB := hW.le
 have hC := fun o => Tell_yes e v (w.alloc o) ((hE.mono (fun b hb => Nat.lt_of_lt_of_le hb hB)).of (aB (Below.refl _ _) o) |>.mono (fun b hb => Nat.lt_of_lt_of_le hb (aB (Below.refl w.heap.size w) o).size)) (hW.tb.alloc o) hm hn
 have hp := xpT_pos hm
 obtain ⟨N, hN⟩ : ∃ N, N = (zs (tellF 40 e)).length := ⟨_, rfl⟩
 have hN0 : 0 < N := by rw [hN, zs_len]; exact hp
 have hlN : T.length + N ≤ 1000000 := by rw [hN, zs_len]; exact hl
 have hw : ∃ k n s o ma cap nl, v = .agg #[.int .u8 k, .int .u64 n, .string s, .int .u8 o, .slice ma nl cap] := by cases hE; exact ⟨_, _, _, _, _, _, _, rfl⟩
 obtain ⟨k, n, s, o, ma, cap, nl, rfl⟩ := hw
 rw [← hN] at hC
 have HN := Lib.hid hN
 obtain ⟨Z, hZ⟩ : ∃ Z, Z = cellsZ (zs (tellF 40 e)) := ⟨_, rfl⟩
 rw [← hZ] at hC
 have HZ := Lib.hid hZ
 obtain ⟨M, hM⟩ : ∃ M, M = T.length := ⟨_, rfl⟩
 rw [← hM] at ho hlN
 have HM := Lib.hid hM
 have HZl : Hid (Z.length = N * 4) := Lib.hid (by rw [hZ, cellsZ_len, hN])
 have HZ1 : Hid (∀ u ∈ Z, u.oneCell' = true) := Lib.hid (by rw [hZ]; exact cellsZ_one _)
 clear hM hN hZ hE hl hm hn hp
 go_enter Tryz.func122, Tryz.ntmps122
 go_wp2_with (first | (go_at_call 150; ((with_reducible refine (hC _).mono ?_); (rintro r w1 ⟨⟨l2, rfl, ho2⟩, hb⟩); have ho1 := own_of (ho.alloc _) hb; have hB1 : Below w.heap.size w w1 := tr (aB (Below.refl _ _) _) hb; (obtain ⟨g2, cap2, rfl, hg2, hg3⟩ := ho2.form hN0))) | (at_builtin; refine wpList_append_lies2 rfl _ _ 63 62 rfl B 95 i0 _ 4 40 Tryz.underlying63 Tryz.underlying62 hi hz0 hz1 hz2 rfl (by decide) l M (cellsZ T) rfl ho1 ⟨g2, 0, none⟩ N cap2 Z rfl HZl.out ?cN HZ1.out hN0 ?c1 ?c2 ?c3 _ rfl ?_))
 case cN =>
  intro j u hu
  have hj : j < N * 4 := by have := (List.getElem?_eq_some_iff.1 hu).1; rw [HZl.out] at this; exact this
  have h2 := (ho2.cellAt j hj).trans hu
  rw [addp, Nat.zero_add]
  exact h2
 case c1 => unfold maxLen; omega
 case c2 => omega
 case c3 => have h1 := hB1.size; omega
 intro g cap' w5 hown hgrow hat hlt
 go_wp2
 go_ret
 rw [HZ.out] at hown
 exact ⟨_, rfl, (tl_append hown HM.out HN.out hgrow hat rfl).pre hB1⟩
theorem sec_len (b : Bool) : (secT b).length ≤ 1 := by cases b <;> simp [secT]
theorem rparam_m  :
 (∀ (nm : List UInt8) (buf sec : Bool) (B : Nat) (l : Value) (T : List (Tk × Int)) (w : World) (ho : w.ownsRow B 95 4 l T.length (cellsZ T)) (hB : B ≤ w.heap.size) (hl : T.length ≤ 999990), Calls Tryz.prog 119 #[l, .agg #[.string (str nm), .bool buf, .bool sec, .bool true]] w fun r w' => ∃ l', r = .returned l' ∧ Tl B w w' l l' (T ++ zs ([wdT wEdit] ++ (secT sec ++ [nmT nm])))) ∧
 (∀ (nm : List UInt8) (sec : Bool) (B : Nat) (l : Value) (T : List (Tk × Int)) (w : World) (ho : w.ownsRow B 95 4 l T.length (cellsZ T)) (hB : B ≤ w.heap.size) (hl : T.length ≤ 999990), Calls Tryz.prog 119 #[l, .agg #[.string (str nm), .bool true, .bool sec, .bool false]] w fun r w' => ∃ l', r = .returned l' ∧ Tl B w w' l l' (T ++ zs ([wdT wView] ++ (secT sec ++ [nmT nm])))) ∧
 (∀ (nm : List UInt8) (B : Nat) (l : Value) (T : List (Tk × Int)) (w : World) (ho : w.ownsRow B 95 4 l T.length (cellsZ T)) (hB : B ≤ w.heap.size) (hl : T.length ≤ 999990), Calls Tryz.prog 119 #[l, .agg #[.string (str nm), .bool false, .bool true, .bool false]] w fun r w' => ∃ l', r = .returned l' ∧ Tl B w w' l l' (T ++ zs ([] ++ (secT true ++ [nmT nm])))) ∧
 (∀ (nm : List UInt8) (B : Nat) (l : Value) (T : List (Tk × Int)) (w : World) (ho : w.ownsRow B 95 4 l T.length (cellsZ T)) (hB : B ≤ w.heap.size) (hl : T.length ≤ 999990), Calls Tryz.prog 119 #[l, .agg #[.string (str nm), .bool false, .bool false, .bool false]] w fun r w' => ∃ l', r = .returned l' ∧ Tl B w w' l l' (T ++ zs ([wdT wNum] ++ (secT false ++ [nmT nm])))) := by
 refine ⟨(@fun nm buf sec B l T w ho hB hl => have k1 : Nat := 0; ?_), (@fun nm sec B l T w ho hB hl => have k2 : Nat := 0; ?_), (@fun nm B l T w ho hB hl => have k3 : Nat := 0; ?_), (@fun nm B l T w ho hB hl => have k4 : Nat := 0; ?_)⟩
 all_goals
  first
  | (replace k1 := k1
     obtain ⟨W, hW⟩ : ∃ W, w.alloc (.cells #[.string (str nm), .bool buf, .bool sec, .bool true] 49) = W := ⟨_, rfl⟩)
  | (replace k2 := k2
     obtain ⟨W, hW⟩ : ∃ W, w.alloc (.cells #[.string (str nm), .bool true, .bool sec, .bool false] 49) = W := ⟨_, rfl⟩)
  | (replace k3 := k3
     obtain ⟨W, hW⟩ : ∃ W, w.alloc (.cells #[.string (str nm), .bool false, .bool true, .bool false] 49) = W := ⟨_, rfl⟩)
  | (replace k4 := k4
     obtain ⟨W, hW⟩ : ∃ W, w.alloc (.cells #[.string (str nm), .bool false, .bool false, .bool false] 49) = W := ⟨_, rfl⟩)
  have hBw : Below w.heap.size w W := by rw [← hW]; exact aB (Below.refl _ _) _
  first
  | (replace k1 := k1
     have hrW : rowG #[.string (str nm), .bool buf, .bool sec, .bool true] W w.heap.size := by rw [← hW]; exact rowG_at _ _ _ _ rfl)
  | (replace k2 := k2
     have hrW : rowG #[.string (str nm), .bool true, .bool sec, .bool false] W w.heap.size := by rw [← hW]; exact rowG_at _ _ _ _ rfl)
  | (replace k3 := k3
     have hrW : rowG #[.string (str nm), .bool false, .bool true, .bool false] W w.heap.size := by rw [← hW]; exact rowG_at _ _ _ _ rfl)
  | (replace k4 := k4
     have hrW : rowG #[.string (str nm), .bool false, .bool false, .bool false] W w.heap.size := by rw [← hW]; exact rowG_at _ _ _ _ rfl)
  have hn0 : l.ownBlock ≠ some w.heap.size := own_new ho (.inl (Nat.le_refl _))
  have hoW : W.ownsRow B 95 4 l T.length (cellsZ T) := own_of ho hBw
  have hBW : B ≤ W.heap.size := Nat.le_trans hB hBw.size
  first
  | (replace k1 := k1
     have hwd := rword_any wEdit B l T W hoW hBW (by omega)
     rw [show str wEdit = { data := #[101, 100, 105, 116] } from rfl] at hwd
     have u0 : W.cell? ⟨w.heap.size, 0, none⟩ = some (.string (str nm)) := hrW.1 0 (by simp); have u1 : W.cell? ⟨w.heap.size, 1, none⟩ = some (.bool buf) := hrW.1 1 (by simp); have u2 : W.cell? ⟨w.heap.size, 2, none⟩ = some (.bool sec) := hrW.1 2 (by simp); have u3 : W.cell? ⟨w.heap.size, 3, none⟩ = some (.bool true) := hrW.1 3 (by simp))
  | (replace k2 := k2
     have hwd := rword_any wView B l T W hoW hBW (by omega)
     rw [show str wView = { data := #[118, 105, 101, 119] } from rfl] at hwd
     have u0 : W.cell? ⟨w.heap.size, 0, none⟩ = some (.string (str nm)) := hrW.1 0 (by simp); have u1 : W.cell? ⟨w.heap.size, 1, none⟩ = some (.bool true) := hrW.1 1 (by simp); have u2 : W.cell? ⟨w.heap.size, 2, none⟩ = some (.bool sec) := hrW.1 2 (by simp); have u3 : W.cell? ⟨w.heap.size, 3, none⟩ = some (.bool false) := hrW.1 3 (by simp))
  | (replace k3 := k3
     have u0 : W.cell? ⟨w.heap.size, 0, none⟩ = some (.string (str nm)) := hrW.1 0 (by simp); have u1 : W.cell? ⟨w.heap.size, 1, none⟩ = some (.bool false) := hrW.1 1 (by simp); have u2 : W.cell? ⟨w.heap.size, 2, none⟩ = some (.bool true) := hrW.1 2 (by simp); have u3 : W.cell? ⟨w.heap.size, 3, none⟩ = some (.bool false) := hrW.1 3 (by simp))
  | (replace k4 := k4
     have hwd := rword_any wNum B l T W hoW hBW (by omega)
     rw [show str wNum = { data := #[110, 117, 109] } from rfl] at hwd
     have u0 : W.cell? ⟨w.heap.size, 0, none⟩ = some (.string (str nm)) := hrW.1 0 (by simp); have u1 : W.cell? ⟨w.heap.size, 1, none⟩ = some (.bool false) := hrW.1 1 (by simp); have u2 : W.cell? ⟨w.heap.size, 2, none⟩ = some (.bool false) := hrW.1 2 (by simp); have u3 : W.cell? ⟨w.heap.size, 3, none⟩ = some (.bool false) := hrW.1 3 (by simp))
  have hlW := hrW.2.2
  go_enter Tryz.func119, Tryz.ntmps119
  first
  | (replace k1 := k1
     go_wp2_with (go_at_call 115; ((with_reducible refine hwd.mono ?_); (rintro e w1 ⟨l1, rfl, hT1⟩)))
     have hn1 : l1.ownBlock ≠ some w.heap.size := hT1.apart hlW hn0
     have hr1 : rowG #[.string (str nm), .bool buf, .bool sec, .bool true] w1 w.heap.size := rowG_only hrW hT1.only hn0
     have hBX : B ≤ w1.heap.size := Nat.le_trans hBW hT1.only.size
     have hBD : B ≤ w1.drew.heap.size := hBX
     have hoX : w1.drew.ownsRow B 95 4 l1 (T ++ zs [wdT wEdit]).length (cellsZ (T ++ zs [wdT wEdit])) := own_only hT1.own (od1 (S := fun _ => False)) (fun _ _ h => h)
     have hFi : ∀ w', Only (fun j => l1.ownBlock = some j) w1 w' → w'.cell? ⟨w.heap.size, 0, none⟩ = some (.string (str nm)) ∧ w'.cell? ⟨w.heap.size, 2, none⟩ = some (.bool sec) := fun w' h => ⟨(rowG_only hr1 h hn1).1 0 (by simp), (rowG_only hr1 h hn1).1 2 (by simp)⟩
     have hF0 : Only (fun j => l1.ownBlock = some j) w1 w1.drew := od1
     refine region_KN (fun w' => Only (fun j => l1.ownBlock = some j) w1 w') (by kernel_rfl) ?_)
  | (replace k2 := k2
     go_wp2_with (go_at_call 115; ((with_reducible refine hwd.mono ?_); (rintro e w1 ⟨l1, rfl, hT1⟩)))
     have hn1 : l1.ownBlock ≠ some w.heap.size := hT1.apart hlW hn0
     have hr1 : rowG #[.string (str nm), .bool true, .bool sec, .bool false] w1 w.heap.size := rowG_only hrW hT1.only hn0
     have hBX : B ≤ w1.heap.size := Nat.le_trans hBW hT1.only.size
     have hBD : B ≤ w1.drew.heap.size := hBX
     have hoX : w1.drew.ownsRow B 95 4 l1 (T ++ zs [wdT wView]).length (cellsZ (T ++ zs [wdT wView])) := own_only hT1.own (od1 (S := fun _ => False)) (fun _ _ h => h)
     have hFi : ∀ w', Only (fun j => l1.ownBlock = some j) w1 w' → w'.cell? ⟨w.heap.size, 0, none⟩ = some (.string (str nm)) ∧ w'.cell? ⟨w.heap.size, 2, none⟩ = some (.bool sec) := fun w' h => ⟨(rowG_only hr1 h hn1).1 0 (by simp), (rowG_only hr1 h hn1).1 2 (by simp)⟩
     have hF0 : Only (fun j => l1.ownBlock = some j) w1 w1.drew := od1
     refine region_KN (fun w' => Only (fun j => l1.ownBlock = some j) w1 w') (by kernel_rfl) ?_)
  | (replace k3 := k3
     go_wp2
     have hBX := hBW
     have hBD : B ≤ W.drew.heap.size := hBX
     have hoX : W.drew.ownsRow B 95 4 l T.length (cellsZ T) := own_only hoW (od1 (S := fun _ => False)) (fun _ _ h => h)
     have hFi : ∀ w', Only (fun j => l.ownBlock = some j) W w' → w'.cell? ⟨w.heap.size, 0, none⟩ = some (.string (str nm)) ∧ w'.cell? ⟨w.heap.size, 2, none⟩ = some (.bool true) := fun w' h => ⟨(rowG_only hrW h hn0).1 0 (by simp), (rowG_only hrW h hn0).1 2 (by simp)⟩
     have hF0 : Only (fun j => l.ownBlock = some j) W W.drew := od1
     refine region_KN (fun w' => Only (fun j => l.ownBlock = some j) W w') (by kernel_rfl) ?_)
  | (replace k4 := k4
     go_wp2_with (go_at_call 115; ((with_reducible refine hwd.mono ?_); (rintro e w1 ⟨l1, rfl, hT1⟩)))
     have hn1 : l1.ownBlock ≠ some w.heap.size := hT1.apart hlW hn0
     have hr1 : rowG #[.string (str nm), .bool false, .bool false, .bool false] w1 w.heap.size := rowG_only hrW hT1.only hn0
     have hBX : B ≤ w1.heap.size := Nat.le_trans hBW hT1.only.size
     have hBD : B ≤ w1.drew.heap.size := hBX
     have hoX : w1.drew.ownsRow B 95 4 l1 (T ++ zs [wdT wNum]).length (cellsZ (T ++ zs [wdT wNum])) := own_only hT1.own (od1 (S := fun _ => False)) (fun _ _ h => h)
     have hFi : ∀ w', Only (fun j => l1.ownBlock = some j) w1 w' → w'.cell? ⟨w.heap.size, 0, none⟩ = some (.string (str nm)) ∧ w'.cell? ⟨w.heap.size, 2, none⟩ = some (.bool false) := fun w' h => ⟨(rowG_only hr1 h hn1).1 0 (by simp), (rowG_only hr1 h hn1).1 2 (by simp)⟩
     have hF0 : Only (fun j => l1.ownBlock = some j) w1 w1.drew := od1
     refine region_KN (fun w' => Only (fun j => l1.ownBlock = some j) w1 w') (by kernel_rfl) ?_)
  have q : Pq [0, 1, 2, 4, 5] := trivial
  iterate 5
   refine tkN q rfl (by kernel_rfl) hF0 fun K hK => ?_
   replace q := q.tl
   apply Exists.intro
   refine ⟨Or.inl ⟨by kernel_rfl, fun w' hf => ?_⟩, ?_⟩
   ·obtain ⟨s0, s2⟩ := hFi _ hf
    go_simp
    try exact rfl
   go_simp
   refine hK _ ?_
   clear hK K
  refine wpAnyK_one (k := 3) (by kernel_rfl) ?_
  refine wpOp_step rfl (fun K hK => ?_)
  go_simp
  go_at_call 121
  first
  | (replace k1 := k1
     with_reducible refine (rsecret_any sec B _ (T ++ zs [wdT wEdit]) _ hoX hBD (by simp only [List.length_append, zs_len, List.length_cons, List.length_nil]; omega)).mono ?_)
  | (replace k2 := k2
     with_reducible refine (rsecret_any sec B _ (T ++ zs [wdT wView]) _ hoX hBD (by simp only [List.length_append, zs_len, List.length_cons, List.length_nil]; omega)).mono ?_)
  | (replace k3 := k3
     with_reducible refine (rsecret_any true B _ T _ hoX hBD (by omega)).mono ?_)
  | (replace k4 := k4
     with_reducible refine (rsecret_any false B _ (T ++ zs [wdT wNum]) _ hoX hBD (by simp only [List.length_append, zs_len, List.length_cons, List.length_nil]; omega)).mono ?_)
  rintro e v1 ⟨l3, rfl, hT3⟩
  have hF3 := Only.trans hF0 hT3.only
  refine hK _ _ ⟨hF3, ?_⟩
  clear hK K
  refine wpAnyK_one (k := 6) (by kernel_rfl) ?_
  refine wpOp_step rfl (fun K hK => ?_)
  go_simp
  go_at_call 116
  first
  | (replace k1 := k1
     with_reducible refine (rname_any nm B _ ((T ++ zs [wdT wEdit]) ++ zs (secT sec)) _ hT3.own (Nat.le_trans hBX hF3.size) (by have := sec_len sec; simp only [List.length_append, zs_len, List.length_cons, List.length_nil]; omega)).mono ?_)
  | (replace k2 := k2
     with_reducible refine (rname_any nm B _ ((T ++ zs [wdT wView]) ++ zs (secT sec)) _ hT3.own (Nat.le_trans hBX hF3.size) (by have := sec_len sec; simp only [List.length_append, zs_len, List.length_cons, List.length_nil]; omega)).mono ?_)
  | (replace k3 := k3
     with_reducible refine (rname_any nm B _ (T ++ zs (secT true)) _ hT3.own (Nat.le_trans hBX hF3.size) (by have := sec_len true; simp only [List.length_append, zs_len]; omega)).mono ?_)
  | (replace k4 := k4
     with_reducible refine (rname_any nm B _ ((T ++ zs [wdT wNum]) ++ zs (secT false)) _ hT3.own (Nat.le_trans hBX hF3.size) (by have := sec_len false; simp only [List.length_append, zs_len, List.length_cons, List.length_nil]; omega)).mono ?_)
  rintro e v2 ⟨l6, rfl, hT6⟩
  have hT36 := hT3.trans hT6
  have hF6 := Only.trans hF0 hT36.only
  refine hK _ _ ⟨hF6, ?_⟩
  clear hK K
  refine wpAnyK_one (k := 7) (by kernel_rfl) ?_
  refine wpOp_step rfl (fun K hK => ?_)
  go_simp
  refine hK _ _ ⟨hF6, ?_⟩
  clear hK K
  refine wpAnyK_done (by kernel_rfl) ⟨rfl, ?_⟩
  go_wp2
  go_ret
  first
  | (replace k1 := k1
     have hz := (hT1.trans (tl_fin (Below.refl _ _) hF0 hT36)).pre hBw)
  | (replace k2 := k2
     have hz := (hT1.trans (tl_fin (Below.refl _ _) hF0 hT36)).pre hBw)
  | (replace k3 := k3
     have hz := (tl_fin (Below.refl _ _) hF0 hT36).pre hBw)
  | (replace k4 := k4
     have hz := (hT1.trans (tl_fin (Below.refl _ _) hF0 hT36)).pre hBw)
  first
  | (replace k1 := k1
     rw [show (T ++ zs [wdT wEdit]) ++ zs (secT sec) ++ zs [nmT nm] = T ++ zs ([wdT wEdit] ++ (secT sec ++ [nmT nm])) from by simp [zs]] at hz)
  | (replace k2 := k2
     rw [show (T ++ zs [wdT wView]) ++ zs (secT sec) ++ zs [nmT nm] = T ++ zs ([wdT wView] ++ (secT sec ++ [nmT nm])) from by simp [zs]] at hz)
  | (replace k3 := k3
     rw [show T ++ zs (secT true) ++ zs [nmT nm] = T ++ zs ([] ++ (secT true ++ [nmT nm])) from by simp [zs]] at hz)
  | (replace k4 := k4
     rw [show (T ++ zs [wdT wNum]) ++ zs (secT false) ++ zs [nmT nm] = T ++ zs ([wdT wNum] ++ (secT false ++ [nmT nm])) from by simp [zs]] at hz)
  exact ⟨_, rfl, hz⟩
theorem rparam_any (p : Pm) (B : Nat) (l : Value) (T : List (Tk × Int)) (w : World) (ho : w.ownsRow B 95 4 l T.length (cellsZ T)) (hB : B ≤ w.heap.size) (hl : T.length ≤ 999990) :
 Calls Tryz.prog 119 #[l, .agg #[.string (str p.nm), .bool p.buf, .bool p.sec, .bool p.mu]] w fun r w' => ∃ l', r = .returned l' ∧ Tl B w w' l l' (T ++ zs (pmT p)) := by
 obtain ⟨nm, buf, sec, mu⟩ := p
 cases mu
 ·cases buf
  ·cases sec
   ·exact rparam_m.2.2.2 nm B l T w ho hB hl
   ·exact rparam_m.2.2.1 nm B l T w ho hB hl
  ·exact rparam_m.2.1 nm sec B l T w ho hB hl
 ·exact rparam_m.1 nm buf sec B l T w ho hB hl
theorem flat_take_le {α : Type} (g : α → List Tk) (l : List α) (j : Nat) : ((l.take j).flatMap g).length ≤ (l.flatMap g).length := by
 conv => rhs; rw [← List.take_append_drop j l, List.flatMap_append, List.length_append]
 omega
theorem com_le {α : Type} (f : α → List Tk) : ∀ (l : List α) (j : Nat), (comT f (l.take j)).length ≤ (comT f l).length
 | [], j => by simp
 | x :: r, 0 => by simp [comT]
 | x :: r, j + 1 => by
   rw [List.take_succ_cons, comT, comT, List.length_append, List.length_append]
   have := flat_take_le (fun y => sg [44] :: f y) r j
   omega
theorem com_take {α : Type} (f : α → List Tk) : ∀ (l : List α) (j : Nat) (h : j < l.length), comT f (l.take (j + 1)) = comT f (l.take j) ++ ((if j = 0 then [] else [sg [44]]) ++ f l[j])
 | x :: r, 0, _ => by simp [comT]
 | x :: r, j + 1, h => by
   have h' : j < r.length := by simpa using h
   rw [List.take_succ_cons, List.take_succ_cons, comT, comT, List.take_succ_eq_append_getElem h', List.flatMap_append]
   simp
theorem com_j {α : Type} (f : α → List Tk) (l : List α) (j : Nat) (h : j < l.length) : (comT f (l.take j)).length + (if j = 0 then 0 else 1) + (f l[j]).length ≤ (comT f l).length := by
 have h1 := com_le f l (j + 1)
 rw [com_take f l j h, List.length_append, List.length_append] at h1
 by_cases c : j = 0
 ·rw [if_pos c] at h1 ⊢
  simp only [List.length_nil] at h1
  omega
 ·rw [if_neg c] at h1 ⊢
  simp only [List.length_cons, List.length_nil] at h1
  omega
theorem tl_onB {B : Nat} {w w' : World} {l l' : Value} {T' : List (Tk × Int)} {n : Nat} {xs : List Value} (h : Tl B w w' l l' T') (ho : w.ownsRow B 95 4 l n xs) : Only (fun j => B ≤ j) w w' := h.only.mono (own_ge ho)
theorem rlist_m  :
 (∀ (ls : List (Pm)) (ma : Option Addr) (n cap : Nat) (B : Nat) (l : Value) (T : List (Tk × Int)) (w : World) (hn : ls.length = n) (hP : PmsAt (fun b => b < B) w ls ma) (hW : Wr B w) (hnl : ls.length ≤ 140737488355328) (ho : w.ownsRow B 95 4 l T.length (cellsZ T)) (hl : T.length + (comT pmT ls).length ≤ 999990), Calls Tryz.prog 118 #[l, .slice ma n cap, .func (.func 119) #[] #[]] w fun r w' => ∃ l', r = .returned l' ∧ Tl B w w' l l' (T ++ zs (comT pmT ls))) ∧
 (∀ (ls : List (Xp)) (ma : Option Addr) (n cap : Nat) (B : Nat) (l : Value) (T : List (Tk × Int)) (w : World) (hn : ls.length = n) (hP : KidsAt (fun b => b < B) w ls ma) (hmy : ∀ x ∈ ls, mayB 40 x = true) (hnd : ∀ x ∈ ls, x.nodes ≤ 100000) (hW : Wr B w) (hnl : ls.length ≤ 140737488355328) (ho : w.ownsRow B 95 4 l T.length (cellsZ T)) (hl : T.length + (comT xpT ls).length ≤ 999990), Calls Tryz.prog 182 #[l, .slice ma n cap, .func (.func 122) #[] #[]] w fun r w' => ∃ l', r = .returned l' ∧ Tl B w w' l l' (T ++ zs (comT xpT ls))) ∧
 (∀ (ls : List (List UInt8)) (ma : Option Addr) (n cap : Nat) (B : Nat) (l : Value) (T : List (Tk × Int)) (w : World) (hn : ls.length = n) (hP : StrsAt (fun b => b < B) w ls ma) (hW : Wr B w) (hnl : ls.length ≤ 140737488355328) (ho : w.ownsRow B 95 4 l T.length (cellsZ T)) (hl : T.length + (comT (fun s => [nmT s]) ls).length ≤ 999990), Calls Tryz.prog 183 #[l, .slice ma n cap, .func (.func 116) #[] #[]] w fun r w' => ∃ l', r = .returned l' ∧ Tl B w w' l l' (T ++ zs (comT (fun s => [nmT s]) ls))) := by
 refine ⟨(@fun ls ma n cap B l T w hn hP hW hnl ho hl => have k1 : Nat := 0; ?_), (@fun ls ma n cap B l T w hn hP hmy hnd hW hnl ho hl => have k2 : Nat := 0; ?_), (@fun ls ma n cap B l T w hn hP hW hnl ho hl => have k3 : Nat := 0; ?_)⟩
 all_goals
  have HP := Lib.hid hP
  have HW := Lib.hid hW
  have hB := hW.le
  first
  | (replace k1 := k1)
  | (replace k2 := k2
     have HMY := Lib.hid hmy
     have HND := Lib.hid hnd
     clear hmy hnd)
  | (replace k3 := k3)
  have HN := Lib.hid hn
  have hn47 : n ≤ 140737488355328 := by omega
  have HL := Lib.hid hl
  clear hP hW hn hnl hl
  first
  | (replace k1 := k1
     go_enter Tryz.func118, Tryz.ntmps118)
  | (replace k2 := k2
     go_enter Tryz.func182, Tryz.ntmps182)
  | (replace k3 := k3
     go_enter Tryz.func183, Tryz.ntmps183)
  go_wp2
  first
  | (replace k1 := k1
     go_loopw [0, 11] (fun l1 i wr => ∃ j : Nat, j ≤ n ∧ i = .int .i64 j ∧ Tl B w wr l l1 (T ++ zs (comT pmT (ls.take j)))) (fun _ i _ => n - (intOf i).toNat))
  | (replace k2 := k2
     go_loopw [0, 11] (fun l1 i wr => ∃ j : Nat, j ≤ n ∧ i = .int .i64 j ∧ Tl B w wr l l1 (T ++ zs (comT xpT (ls.take j)))) (fun _ i _ => n - (intOf i).toNat))
  | (replace k3 := k3
     go_loopw [0, 11] (fun l1 i wr => ∃ j : Nat, j ≤ n ∧ i = .int .i64 j ∧ Tl B w wr l l1 (T ++ zs (comT (fun s => [nmT s]) (ls.take j)))) (fun _ i _ => n - (intOf i).toNat))
  case atStart => exact ⟨0, by omega, rfl, by simpa [zs, comT] using Tl.refl ho⟩
  case round =>
   obtain ⟨j, hj, rfl, hT⟩ := hrel
   by_cases hlt : j < n
   ·
    have hlt' : j < ls.length := by rw [HN.out]; exact hlt
    first
    | (replace k1 := k1
       have hcj := com_j pmT ls j hlt')
    | (replace k2 := k2
       have hcj := com_j xpT ls j hlt')
    | (replace k3 := k3
       have hcj := com_j (fun s => [nmT s]) ls j hlt')
    first
    | (replace k1 := k1
       have hct := com_take pmT ls j hlt')
    | (replace k2 := k2
       have hct := com_take xpT ls j hlt')
    | (replace k3 := k3
       have hct := com_take (fun s => [nmT s]) ls j hlt')
    have hLo := HL.out
    first
    | (replace k1 := k1
       obtain ⟨b, o, hma, hbB, k0, k1, k2, k3⟩ := HP.out j hlt')
    | (replace k2 := k2
       obtain ⟨b, o, hma⟩ := kids_some HP.out (by omega))
    | (replace k3 := k3
       obtain ⟨b, o, hma, hbB, k0⟩ := HP.out j hlt')
    subst hma
    first
    | (replace k1 := k1)
    | (replace k2 := k2
       obtain ⟨ka, kc, hkid⟩ := kidIn HP.out j hlt'
       obtain ⟨hbB, k0, k1, k2, k3, k4, hEx⟩ := hkid)
    | (replace k3 := k3)
    have hne : ¬ l.ownBlock = some b := own_new ho (.inr hbB)
    first
    | (replace k1 := k1
       have g0 := hT.only.cell (a := ⟨b, o + j * 4, none⟩) hne k0
       have g1 := hT.only.cell (a := ⟨b, o + j * 4 + 1, none⟩) hne k1
       have g2 := hT.only.cell (a := ⟨b, o + j * 4 + 2, none⟩) hne k2
       have g3 := hT.only.cell (a := ⟨b, o + j * 4 + 3, none⟩) hne k3)
    | (replace k2 := k2
       have g0 := hT.only.cell (a := ⟨b, o + j * 5, none⟩) hne k0
       have g1 := hT.only.cell (a := ⟨b, o + j * 5 + 1, none⟩) hne k1
       have g2 := hT.only.cell (a := ⟨b, o + j * 5 + 2, none⟩) hne k2
       have g3 := hT.only.cell (a := ⟨b, o + j * 5 + 3, none⟩) hne k3
       have g4 := hT.only.cell (a := ⟨b, o + j * 5 + 4, none⟩) hne k4)
    | (replace k3 := k3
       have g0 := hT.only.cell (a := ⟨b, o + j, none⟩) hne k0)
    have hbl : b < wr.heap.size := World.block_lt_of_cell? wr _ g0
    first
    | (replace k1 := k1
       clear k0 k1 k2 k3)
    | (replace k2 := k2
       clear k0 k1 k2 k3 k4)
    | (replace k3 := k3
       clear k0)
    obtain ⟨x, hx⟩ : ∃ x, x = ls[j] := ⟨_, rfl⟩
    first
    | (replace k1 := k1
       rw [← hx] at hcj hct g0 g1 g2 g3
       have hput : ∀ w' l' T', Only (fun j => B ≤ j) w w' → w'.ownsRow B 95 4 l' T'.length (cellsZ T') → B ≤ w'.heap.size → T'.length + (pmT x).length ≤ 999990 → Calls Tryz.prog 119 #[l', .agg #[.string (str x.nm), .bool x.buf, .bool x.sec, .bool x.mu]] w' fun r w2 => ∃ l2, r = .returned l2 ∧ Tl B w' w2 l' l2 (T' ++ zs (pmT x)) := fun w' l' T' _ h1 h2 h3 => rparam_any x B l' T' w' h1 h2 (by omega))
    | (replace k2 := k2
       rw [← hx] at hcj hct g0 g1 g2 g3 g4
       have hmx := HMY.out _ (List.getElem_mem hlt')
       have hnx := HND.out _ (List.getElem_mem hlt')
       rw [← hx] at hEx hmx hnx
       have hput : ∀ w' l' T', Only (fun j => B ≤ j) w w' → w'.ownsRow B 95 4 l' T'.length (cellsZ T') → B ≤ w'.heap.size → T'.length + (xpT x).length ≤ 999990 → Calls Tryz.prog 122 #[l', .agg #[.int .u8 (x.k : Int), .int .u64 (x.n : Int), .string (str x.s), .int .u8 (x.o : Int), .slice ka x.l.length kc]] w' fun r w2 => ∃ l2, r = .returned l2 ∧ Tl B w' w2 l' l2 (T' ++ zs (xpT x)) := fun w' l' T' hon h1 h2 h3 => rexpr_any x _ B l' T' w' (hEx.only hon (fun b hb h => by have hb' : b < B := hb; have h' : B ≤ b := h; omega)) (HW.out.only hon (fun _ h => h)) hmx hnx h1 (by omega)
       clear hEx hmx hnx)
    | (replace k3 := k3
       rw [← hx] at hcj hct g0
       have hcj : (comT (fun s => [nmT s]) (ls.take j)).length + (if j = 0 then 0 else 1) + [nmT x].length ≤ (comT (fun s => [nmT s]) ls).length := hcj
       have hct : comT (fun s => [nmT s]) (ls.take (j + 1)) = comT (fun s => [nmT s]) (ls.take j) ++ ((if j = 0 then [] else [sg [44]]) ++ [nmT x]) := hct
       have hput : ∀ w' l' T', Only (fun j => B ≤ j) w w' → w'.ownsRow B 95 4 l' T'.length (cellsZ T') → B ≤ w'.heap.size → T'.length + [nmT x].length ≤ 999990 → Calls Tryz.prog 116 #[l', .string (str x)] w' fun r w2 => ∃ l2, r = .returned l2 ∧ Tl B w' w2 l' l2 (T' ++ zs [nmT x]) := fun w' l' T' _ h1 h2 h3 => rname_any x B l' T' w' h1 h2 (by simp only [List.length_cons] at h3; omega))
    have HX := Lib.hid hx
    have HCT := Lib.hid hct
    clear hx hct
    have hOn := tl_onB hT ho
    first
    | (replace k1 := k1
       have hTl : (T ++ zs (comT pmT (ls.take j))).length + (if j = 0 then 0 else 1) + (pmT x).length ≤ 999990 := by simp only [List.length_append, zs_len]; omega)
    | (replace k2 := k2
       have hTl : (T ++ zs (comT xpT (ls.take j))).length + (if j = 0 then 0 else 1) + (xpT x).length ≤ 999990 := by simp only [List.length_append, zs_len]; omega)
    | (replace k3 := k3
       have hTl : (T ++ zs (comT (fun s => [nmT s]) (ls.take j))).length + (if j = 0 then 0 else 1) + ([nmT x]).length ≤ 999990 := by simp only [List.length_append, zs_len]; omega)
    clear hcj hLo
    have ho1 := hT.own
    have HT := Lib.hid hT
    have hBr : B ≤ wr.heap.size := Nat.le_trans hB hT.only.size
    clear hT
    first
    | (replace k1 := k1
       generalize hT0 : T ++ zs (comT pmT (ls.take j)) = T1 at *)
    | (replace k2 := k2
       generalize hT0 : T ++ zs (comT xpT (ls.take j)) = T1 at *)
    | (replace k3 := k3
       generalize hT0 : T ++ zs (comT (fun s => [nmT s]) (ls.take j)) = T1 at *)
    have HT0 := Lib.hid hT0
    clear hT0
    first
    | (replace k1 := k1
       obtain ⟨W1, hW1⟩ : ∃ W1, wr.alloc (.cells #[.string (str x.nm), .bool x.buf, .bool x.sec, .bool x.mu] 49) = W1 := ⟨_, rfl⟩
       have hB1 : Below wr.heap.size wr W1 := by rw [← hW1]; exact aB (Below.refl _ _) _
       have hr1 : rowG #[.string (str x.nm), .bool x.buf, .bool x.sec, .bool x.mu] W1 wr.heap.size := by rw [← hW1]; exact rowG_at _ _ _ _ rfl
       have how := own_of ho1 hB1
       have hBw1 : B ≤ W1.heap.size := Nat.le_trans hBr hB1.size)
    | (replace k2 := k2
       obtain ⟨W1, hW1⟩ : ∃ W1, wr.alloc (.cells #[.int .u8 (x.k : Int), .int .u64 (x.n : Int), .string (str x.s), .int .u8 (x.o : Int), .slice ka x.l.length kc] 47) = W1 := ⟨_, rfl⟩
       have hB1 : Below wr.heap.size wr W1 := by rw [← hW1]; exact aB (Below.refl _ _) _
       have hr1 : rowG #[.int .u8 (x.k : Int), .int .u64 (x.n : Int), .string (str x.s), .int .u8 (x.o : Int), .slice ka x.l.length kc] W1 wr.heap.size := by rw [← hW1]; exact rowG_at _ _ _ _ rfl
       have how := own_of ho1 hB1
       have hBw1 : B ≤ W1.heap.size := Nat.le_trans hBr hB1.size)
    | (replace k3 := k3)
    by_cases h0 : j = 0
    ·
     rw [if_pos h0] at hTl
     have H0 := Lib.hid h0
     have h0p : (j : Int) ≤ 0 := by omega
     clear h0
     first
     | (replace k1 := k1
        have hin := hput W1 _ T1 (hOn.trans (only_below hB1)) how hBw1 (by omega)
        obtain ⟨p0, p1, p2, p3, pl⟩ := (⟨hr1.1 0 (by simp), hr1.1 1 (by simp), hr1.1 2 (by simp), hr1.1 3 (by simp), hr1.2.2⟩ : W1.cell? ⟨wr.heap.size, 0, none⟩ = some (.string (str x.nm)) ∧ W1.cell? ⟨wr.heap.size, 1, none⟩ = some (.bool x.buf) ∧ W1.cell? ⟨wr.heap.size, 2, none⟩ = some (.bool x.sec) ∧ W1.cell? ⟨wr.heap.size, 3, none⟩ = some (.bool x.mu) ∧ wr.heap.size < W1.heap.size)
        go_wp2_with (go_at_call 119; ((with_reducible refine hin.mono ?_); (rintro e w5 ⟨l5, rfl, hT5⟩)))
        have hT6 := HT.out.trans (hT5.pre hB1))
     | (replace k2 := k2
        have hin := hput W1 _ T1 (hOn.trans (only_below hB1)) how hBw1 (by omega)
        obtain ⟨p0, p1, p2, p3, p4, pl⟩ := (⟨hr1.1 0 (by simp), hr1.1 1 (by simp), hr1.1 2 (by simp), hr1.1 3 (by simp), hr1.1 4 (by simp), hr1.2.2⟩ : W1.cell? ⟨wr.heap.size, 0, none⟩ = some (.int .u8 (x.k : Int)) ∧ W1.cell? ⟨wr.heap.size, 1, none⟩ = some (.int .u64 (x.n : Int)) ∧ W1.cell? ⟨wr.heap.size, 2, none⟩ = some (.string (str x.s)) ∧ W1.cell? ⟨wr.heap.size, 3, none⟩ = some (.int .u8 (x.o : Int)) ∧ W1.cell? ⟨wr.heap.size, 4, none⟩ = some (.slice ka x.l.length kc) ∧ wr.heap.size < W1.heap.size)
        go_wp2_with (go_at_call 122; ((with_reducible refine hin.mono ?_); (rintro e w5 ⟨l5, rfl, hT5⟩)))
        have hT6 := HT.out.trans (hT5.pre hB1))
     | (replace k3 := k3
        have hin := hput wr _ T1 hOn ho1 hBr (by omega)
        go_wp2_with (go_at_call 116; ((with_reducible refine hin.mono ?_); (rintro e w5 ⟨l5, rfl, hT5⟩)))
        have hT6 := HT.out.trans hT5)
     go_roundw
     case rel => exact ⟨j + 1, by omega, by go_num, by rw [HCT.out, if_pos H0.out, List.nil_append, zs_app, ← List.append_assoc, HT0.out]; exact hT6⟩
     case measure => simp [intOf]; omega
    ·
     have h0p : (0 : Int) < (j : Int) := by omega
     rw [if_neg h0] at hTl
     first
     | (replace k1 := k1
        have hsg := rsign_any [[44]] W1.heap.size 1 B _ T1 (W1.alloc (.cells #[.string { data := #[44] }] 9)) rfl (hasS_strs (ss := [[44]]) (HasS.new (strC [[44]]).toArray 9 W1)) (by simp) (own_new how (.inl (Nat.le_refl _))) (how.alloc _) (Nat.le_trans hBw1 (by simp)) (by simp only [List.length_cons, List.length_nil]; omega)
        have hr2 := rowG_alloc hr1 (.cells #[.string { data := #[44] }] 9)
        have hnb := own_new ho1 (.inl (Nat.le_refl wr.heap.size))
        obtain ⟨p0, p1, p2, p3, pl⟩ := (⟨hr1.1 0 (by simp), hr1.1 1 (by simp), hr1.1 2 (by simp), hr1.1 3 (by simp), hr1.2.2⟩ : W1.cell? ⟨wr.heap.size, 0, none⟩ = some (.string (str x.nm)) ∧ W1.cell? ⟨wr.heap.size, 1, none⟩ = some (.bool x.buf) ∧ W1.cell? ⟨wr.heap.size, 2, none⟩ = some (.bool x.sec) ∧ W1.cell? ⟨wr.heap.size, 3, none⟩ = some (.bool x.mu) ∧ wr.heap.size < W1.heap.size)
        go_wp2_with (first | (go_at_call 117; ((with_reducible refine hsg.mono ?_); (rintro e v3 ⟨l3, rfl, hT3⟩); have hr3 := rowG_only hr2 hT3.only hnb; (obtain ⟨q0, q1, q2, q3, ql⟩ := (⟨hr3.1 0 (by simp), hr3.1 1 (by simp), hr3.1 2 (by simp), hr3.1 3 (by simp), hr3.2.2⟩ : v3.cell? ⟨wr.heap.size, 0, none⟩ = some (.string (str x.nm)) ∧ v3.cell? ⟨wr.heap.size, 1, none⟩ = some (.bool x.buf) ∧ v3.cell? ⟨wr.heap.size, 2, none⟩ = some (.bool x.sec) ∧ v3.cell? ⟨wr.heap.size, 3, none⟩ = some (.bool x.mu) ∧ wr.heap.size < v3.heap.size)); have hOn3 := (hOn.trans (only_below (aB hB1 _))).trans (tl_onB hT3 (how.alloc _)); have hin := hput v3 l3 _ hOn3 hT3.own (Nat.le_trans hBw1 (Nat.le_trans (by simp) hT3.only.size)) (by simp only [List.length_append, zs_len, List.length_map, List.length_cons, List.length_nil]; omega))) | (go_at_call 119; ((with_reducible refine hin.mono ?_); (rintro e w5 ⟨l5, rfl, hT5⟩))))
        have hT6 := HT.out.trans ((hT3.trans hT5).pre (aB hB1 _)))
     | (replace k2 := k2
        have hsg := rsign_any [[44]] W1.heap.size 1 B _ T1 (W1.alloc (.cells #[.string { data := #[44] }] 9)) rfl (hasS_strs (ss := [[44]]) (HasS.new (strC [[44]]).toArray 9 W1)) (by simp) (own_new how (.inl (Nat.le_refl _))) (how.alloc _) (Nat.le_trans hBw1 (by simp)) (by simp only [List.length_cons, List.length_nil]; omega)
        have hr2 := rowG_alloc hr1 (.cells #[.string { data := #[44] }] 9)
        have hnb := own_new ho1 (.inl (Nat.le_refl wr.heap.size))
        obtain ⟨p0, p1, p2, p3, p4, pl⟩ := (⟨hr1.1 0 (by simp), hr1.1 1 (by simp), hr1.1 2 (by simp), hr1.1 3 (by simp), hr1.1 4 (by simp), hr1.2.2⟩ : W1.cell? ⟨wr.heap.size, 0, none⟩ = some (.int .u8 (x.k : Int)) ∧ W1.cell? ⟨wr.heap.size, 1, none⟩ = some (.int .u64 (x.n : Int)) ∧ W1.cell? ⟨wr.heap.size, 2, none⟩ = some (.string (str x.s)) ∧ W1.cell? ⟨wr.heap.size, 3, none⟩ = some (.int .u8 (x.o : Int)) ∧ W1.cell? ⟨wr.heap.size, 4, none⟩ = some (.slice ka x.l.length kc) ∧ wr.heap.size < W1.heap.size)
        go_wp2_with (first | (go_at_call 117; ((with_reducible refine hsg.mono ?_); (rintro e v3 ⟨l3, rfl, hT3⟩); have hr3 := rowG_only hr2 hT3.only hnb; (obtain ⟨q0, q1, q2, q3, q4, ql⟩ := (⟨hr3.1 0 (by simp), hr3.1 1 (by simp), hr3.1 2 (by simp), hr3.1 3 (by simp), hr3.1 4 (by simp), hr3.2.2⟩ : v3.cell? ⟨wr.heap.size, 0, none⟩ = some (.int .u8 (x.k : Int)) ∧ v3.cell? ⟨wr.heap.size, 1, none⟩ = some (.int .u64 (x.n : Int)) ∧ v3.cell? ⟨wr.heap.size, 2, none⟩ = some (.string (str x.s)) ∧ v3.cell? ⟨wr.heap.size, 3, none⟩ = some (.int .u8 (x.o : Int)) ∧ v3.cell? ⟨wr.heap.size, 4, none⟩ = some (.slice ka x.l.length kc) ∧ wr.heap.size < v3.heap.size)); have hOn3 := (hOn.trans (only_below (aB hB1 _))).trans (tl_onB hT3 (how.alloc _)); have hin := hput v3 l3 _ hOn3 hT3.own (Nat.le_trans hBw1 (Nat.le_trans (by simp) hT3.only.size)) (by simp only [List.length_append, zs_len, List.length_map, List.length_cons, List.length_nil]; omega))) | (go_at_call 122; ((with_reducible refine hin.mono ?_); (rintro e w5 ⟨l5, rfl, hT5⟩))))
        have hT6 := HT.out.trans ((hT3.trans hT5).pre (aB hB1 _)))
     | (replace k3 := k3
        have hsg := rsign_any [[44]] wr.heap.size 1 B _ T1 (wr.alloc (.cells #[.string { data := #[44] }] 9)) rfl (hasS_strs (ss := [[44]]) (HasS.new (strC [[44]]).toArray 9 wr)) (by simp) (own_new ho1 (.inl (Nat.le_refl _))) (ho1.alloc _) (Nat.le_trans hBr (by simp)) (by simp only [List.length_cons, List.length_nil] at hTl ⊢; omega)
        go_wp2_with (first | (go_at_call 117; ((with_reducible refine hsg.mono ?_); (rintro e v3 ⟨l3, rfl, hT3⟩); have hOn3 := (hOn.trans (only_below (aB (Below.refl _ _) _))).trans (tl_onB hT3 (ho1.alloc _)); have hin := hput v3 l3 _ hOn3 hT3.own (Nat.le_trans hBr (Nat.le_trans (by simp) hT3.only.size)) (by simp only [List.length_append, zs_len, List.length_map, List.length_cons, List.length_nil] at hTl ⊢; omega))) | (go_at_call 116; ((with_reducible refine hin.mono ?_); (rintro e w5 ⟨l5, rfl, hT5⟩))))
        have hT6 := HT.out.trans ((hT3.trans hT5).pre (aB (Below.refl _ _) _)))
     go_roundw
     case rel => exact ⟨j + 1, by omega, by go_num, by rw [HCT.out, if_neg h0, zs_app, zs_app, ← List.append_assoc, ← List.append_assoc, HT0.out]; exact hT6⟩
     case measure => simp [intOf]; omega
   ·obtain rfl : j = n := by omega
    go_wp2
    go_ret
    rw [List.take_of_length_le (by rw [HN.out]; exact Nat.le_refl _)] at hT
    exact ⟨_, rfl, hT⟩
def tgN (b : Bool) : Nat := bif b then 0 else 1
theorem tgN_t : tgN true = 0 := rfl
theorem tgN_f : tgN false = 1 := rfl
def nilV : Value := .slice none 0 0
theorem nil_own (j : Nat) : ¬ (Value.slice none 0 0).ownBlock = some j := fun h => by cases h
theorem tl_nil (B : Nat) (W : World) : Tl B W W.drew (.slice none 0 0) (.slice none 0 0) [] := ⟨World.ownsRow_nil _ _ _ _, od1, fun j hj => .inl hj⟩
theorem head_any (nm : List UInt8) (ps : List Pm) (mp mb mr : Option Addr) (np cp nb cb nr cr : Nat) (sec : Bool) (B : Nat) (w0 : World) (hP : PmsAt (fun b => b < B) w0 ps mp) (hn : ps.length = np) (hpl : ps.length ≤ 140737488355328) (hW : Wr B w0) (hb : (comT pmT ps).length ≤ 900000) :
 Calls Tryz.prog 65 #[.agg #[.string (str nm), .slice mp np cp, .slice mb nb cb, .bool sec, .slice mr nr cr]] w0 fun r w' => ∃ l', r = .returned l' ∧ Tl B w0 w' (.slice none 0 0) l' (zs (wdT wFn :: nmT nm :: sg [40] :: (comT pmT ps ++ [sg [41], sg [123]]))) := by
 obtain ⟨W, hWe⟩ : ∃ W, w0.alloc (.cells #[.string (str nm), .slice mp np cp, .slice mb nb cb, .bool sec, .slice mr nr cr] 43) = W := ⟨_, rfl⟩
 have hBw : Below w0.heap.size w0 W := by rw [← hWe]; exact aB (Below.refl _ _) _
 have hrW : rowG #[.string (str nm), .slice mp np cp, .slice mb nb cb, .bool sec, .slice mr nr cr] W w0.heap.size := by rw [← hWe]; exact rowG_at _ _ _ _ rfl
 have hB0 : B ≤ W.heap.size := Nat.le_trans hW.le hBw.size
 go_enter Tryz.func65, Tryz.ntmps65
 go_wp2
 have hFi : ∀ w', Only (fun j => (Value.slice none 0 0).ownBlock = some j) W w' → w'.cell? ⟨w0.heap.size, 0, none⟩ = some (.string (str nm)) ∧ True := fun w' h => ⟨(rowG_only hrW h (nil_own _)).1 0 (by simp), trivial⟩
 have hF0 : Only (fun j => (Value.slice none 0 0).ownBlock = some j) W W.drew := od1
 have hT00 := tl_nil B W
 refine region_KN (fun w' => Only (fun j => (Value.slice none 0 0).ownBlock = some j) W w') (by kernel_rfl) ?_
 have q : Pq [2, 3] := trivial
 iterate 2
  refine tkN q rfl (by kernel_rfl) hF0 fun K hK => ?_
  replace q := q.tl
  apply Exists.intro
  refine ⟨Or.inl ⟨by kernel_rfl, fun w' hf => ?_⟩, ?_⟩
  ·obtain ⟨s0, -⟩ := hFi _ hf
   go_simp
   try exact rfl
  go_simp
  refine hK _ ?_
  clear hK K
 refine wpAnyK_inv (fun fu L a w => ∃ (c0 c1 c2 c3 s0 : Bool) (l1 l2 l3 l4 : Value) (K0 : Nat), fu = 1 + (tgN c0 + tgN c1 + tgN c2 + tgN c3 + tgN s0) ∧ L = #[c0, c1, true, true, c2, s0, c3, false] ∧ a = ⟨#[.agg #[.string (str nm), .slice mp np cp, .slice mb nb cb, .bool sec, .slice mr nr cr], .pointer (some ⟨w0.heap.size, 0, none⟩), .slice none 0 0, undef, (bif c0 then l1 else undef), (bif c1 then l2 else undef), .pointer (some ⟨w0.heap.size, 0, none⟩), .string (str nm), (bif c2 then l3 else undef), (bif s0 then .slice (some ⟨K0, 0, none⟩) 1 1 else undef), (bif c3 then l4 else undef), undef, undef, undef, undef, undef, undef], []⟩ ∧ ((c1 = true → c0 = true) ∧ (c2 = true → c1 = true) ∧ (c3 = true → c2 = true) ∧ (c3 = true → s0 = true)) ∧ Tl B W w (.slice none 0 0) (bif c3 then l4 else (bif c2 then l3 else (bif c1 then l2 else (bif c0 then l1 else (.slice none 0 0))))) (bif c3 then ([] ++ zs ([wdT wFn]) ++ zs ([nmT nm]) ++ zs ([sg [40]])) else (bif c2 then ([] ++ zs ([wdT wFn]) ++ zs ([nmT nm])) else (bif c1 then ([] ++ zs ([wdT wFn])) else (bif c0 then ([]) else ([]))))) ∧ ((s0 = true → HasS (strC [[40]]).toArray 9 K0 w))) ?_ _ _ _ _ ⟨false, false, false, false, false, undef, undef, undef, undef, 0, rfl, rfl, rfl, ⟨(by simp), (by simp), (by simp), (by simp)⟩, hT00, (by simp)⟩
 intro fu L a w hI
 obtain ⟨c0, c1, c2, c3, s0, l1, l2, l3, l4, K0, rfl, rfl, rfl, ⟨e0, e1, e2, e3⟩, hTc, a0⟩ := hI
 by_cases hall : (c0 = true ∧ c1 = true ∧ c2 = true ∧ c3 = true ∧ s0 = true)
 rotate_left
 ·right
  refine ⟨0 + (tgN c0 + tgN c1 + tgN c2 + tgN c3 + tgN s0), by omega, ?_, ?_⟩
  ·intro hr
   have nin : ∀ j, j ∉ Region.ready _ _ _ := fun j hj => by rw [hr] at hj; cases hj
   obtain rfl := bt fun h : s0 = false => nin 5 (rd h rfl rfl)
   obtain rfl := bt fun h : c0 = false => nin 0 (rd h rfl rfl)
   obtain rfl := bt fun h : c1 = false => nin 1 (rd h rfl rfl)
   obtain rfl := bt fun h : c2 = false => nin 4 (rd h rfl rfl)
   obtain rfl := bt fun h : c3 = false => nin 6 (rd h rfl rfl)
   exact hall ⟨rfl, rfl, rfl, rfl, rfl⟩
  ·intro i hi
   obtain ⟨h0, o, ho, hd⟩ := mem_ready.1 hi
   have hiN : i < 8 := by simpa using (Array.getElem?_eq_some_iff.1 ho).1
   have hcN : i = 0 ∨ i = 1 ∨ i = 2 ∨ i = 3 ∨ i = 4 ∨ i = 5 ∨ i = 6 ∨ i = 7 := by omega
   clear hi hiN
   rcases hcN with rfl | rfl | rfl | rfl | rfl | rfl | rfl | rfl
   ·simp at ho h0
    subst ho
    simp [Region.binds] at hd
    subst h0
    refine wpOp_step rfl (fun K' hK => ?_)
    clear hd
    obtain rfl := bff e0
    obtain rfl := bff e1
    obtain rfl := bff e2
    simp only [cond_true, cond_false] at hTc
    have hOj := hTc.only
    have hBj := Nat.le_trans hB0 hOj.size
    go_simp
    have hTn : Tl B W (w.alloc (.cells #[] 95)) (.slice none 0 0) (.slice (some ⟨w.heap.size, 0, none⟩) 0 0) ([]) := ⟨own_built w _ hBj, hOj.trans (only_below (aB (Below.refl _ _) _)), fun j hj => .inr (by cases hj; exact hOj.size)⟩
    refine hK _ _ ⟨hTn.only, true, false, false, false, s0, (.slice (some ⟨w.heap.size, 0, none⟩) 0 0), l2, l3, l4, K0, by simp only [tgN_t, tgN_f] <;> omega, rfl, rfl, (by and_intros <;> first | assumption | exact fun _ => rfl | exact fun h => by cases h), hTn, (fun h => HasS.alloc (a0 h) _)⟩
   ·simp at ho h0
    subst ho
    simp [Region.binds] at hd
    subst h0
    refine wpOp_step rfl (fun K' hK => ?_)
    obtain rfl : c0 = true := by simp [hd]
    clear hd
    obtain rfl := bff e1
    obtain rfl := bff e2
    simp only [cond_true, cond_false] at hTc
    have hOj := hTc.only
    have hBj := Nat.le_trans hB0 hOj.size
    go_simp
    go_at_call 115
    rw [show ({ data := #[102, 110] } : ByteArray) = str wFn from rfl]
    with_reducible refine (rword_any wFn B _ _ _ hTc.own hBj (by simp)).mono ?_
    rintro r' w' ⟨l', rfl, hTx⟩
    have hTn := hTc.trans hTx
    refine hK _ _ ⟨hTn.only, true, true, false, false, s0, l1, l', l3, l4, K0, by simp only [tgN_t, tgN_f] <;> omega, rfl, rfl, (by and_intros <;> first | assumption | exact fun _ => rfl | exact fun h => by cases h), hTn, (fun h => HasS.call (a0 h) (by decide) hTc.own hTx.only)⟩
   ·simp at h0
   ·simp at h0
   ·simp at ho h0
    subst ho
    simp [Region.binds] at hd
    subst h0
    refine wpOp_step rfl (fun K' hK => ?_)
    obtain rfl : c1 = true := by simp [hd]
    clear hd
    obtain rfl := e0 rfl
    obtain rfl := bff e2
    simp only [cond_true, cond_false] at hTc
    have hOj := hTc.only
    have hBj := Nat.le_trans hB0 hOj.size
    go_simp
    go_at_call 116
    with_reducible refine (rname_any nm B _ _ _ hTc.own hBj (by simp [zs])).mono ?_
    rintro r' w' ⟨l', rfl, hTx⟩
    have hTn := hTc.trans hTx
    refine hK _ _ ⟨hTn.only, true, true, true, false, s0, l1, l2, l', l4, K0, by simp only [tgN_t, tgN_f] <;> omega, rfl, rfl, (by and_intros <;> first | assumption | exact fun _ => rfl | exact fun h => by cases h), hTn, (fun h => HasS.call (a0 h) (by decide) hTc.own hTx.only)⟩
   ·simp at ho h0
    subst ho
    simp [Region.binds] at hd
    subst h0
    refine wpOp_step rfl (fun K' hK => ?_)
    go_simp
    refine hK _ _ ⟨(hTc.alloc _).only, c0, c1, c2, c3, true, l1, l2, l3, l4, w.heap.size, by simp only [tgN_t, tgN_f] <;> omega, rfl, rfl, (by and_intros <;> first | assumption | exact fun _ => rfl | exact fun h => by cases h), hTc.alloc _, (fun _ => HasS.new _ _ _)⟩
   ·simp at ho h0
    subst ho
    simp [Region.binds] at hd
    subst h0
    refine wpOp_step rfl (fun K' hK => ?_)
    obtain rfl : c2 = true := by simp [hd]
    obtain rfl : s0 = true := by simp [hd]
    clear hd
    obtain rfl := e1 rfl
    obtain rfl := e0 rfl
    simp only [cond_true, cond_false] at hTc
    have hOj := hTc.only
    have hBj := Nat.le_trans hB0 hOj.size
    go_simp
    go_at_call 117
    with_reducible refine (rsign_c 1 (a0 rfl) hTc hBj rfl (by simp [zs])).mono ?_
    rintro r' w' ⟨l', rfl, hTx⟩
    have hTn := hTc.trans hTx
    refine hK _ _ ⟨hTn.only, true, true, true, true, true, l1, l2, l3, l', K0, by simp only [tgN_t, tgN_f] <;> omega, rfl, rfl, (by and_intros <;> first | assumption | exact fun _ => rfl | exact fun h => by cases h), hTn, (fun h => HasS.call (a0 h) (by decide) hTc.own hTx.only)⟩
   ·exact (hall (by simp at ho; subst ho; simp [Region.binds] at hd <;> simp_all)).elim
 obtain ⟨rfl, rfl, rfl, rfl, rfl⟩ := hall
 left
 simp only [cond_true, cond_false] at hTc
 have hTe := hTc
 clear hTc e0 e1 e2 e3 a0
 refine wpAnyK_one (k := 7) (by kernel_rfl) ?_
 refine wpOp_step rfl (fun K hK => ?_)
 go_simp
 refine hK _ _ ⟨hTe.only, ?_⟩
 clear hK K
 refine wpAnyK_done (by kernel_rfl) ⟨rfl, ?_⟩
 clear hFi hF0 hT00
 have hr := rowG_only hrW hTe.only (nil_own _)
 have hOn : Only (fun j => B ≤ j) w0 w := (only_below hBw).trans (hTe.only.mono (fun j h => (nil_own _ h).elim))
 have u1 : w.cell? ⟨w0.heap.size, 1, none⟩ = some (.slice mp np cp) := hr.1 1 (by simp)
 have hlw := hr.2.2
 have hBe : B ≤ w.heap.size := Nat.le_trans hB0 hTe.only.size
 have hlm : (([] ++ zs [wdT wFn] ++ zs [nmT nm] ++ zs [sg [40]] : List (Tk × Int))).length + (comT pmT ps).length ≤ 999990 := by simp [zs]; omega
 have hls := rlist_m.1 ps mp np cp B l4 _ w hn (hP.only hOn (fun b hb h => by have hb' : b < B := hb; have h' : B ≤ b := h; omega)) (hW.only hOn (fun _ h => h)) hpl hTe.own hlm
 go_wp2_with (first | (go_at_call 118; ((with_reducible refine hls.mono ?_); (rintro e v1 ⟨q1, rfl, hT1⟩); have hsg := rsign_any [[41], [123]] v1.heap.size 2 B q1 _ (v1.alloc (.cells #[.string { data := #[41] }, .string { data := #[123] }] 9)) rfl (hasS_strs (ss := [[41], [123]]) (HasS.new (strC [[41], [123]]).toArray 9 v1)) (by simp) (own_new hT1.own (.inl (Nat.le_refl _))) (hT1.own.alloc _) (Nat.le_trans (Nat.le_trans hBe hT1.only.size) (by simp)) (by simp [zs]; omega))) | (go_at_call 117; ((with_reducible refine hsg.mono ?_); (rintro e v2 ⟨q2, rfl, hT2⟩))))
 go_ret
 have hz := ((hTe.trans hT1).trans (hT2.pre (aB (Below.refl _ _) _))).pre hBw
 rw [show [] ++ zs [wdT wFn] ++ zs [nmT nm] ++ zs [sg [40]] ++ zs (comT pmT ps) ++ zs ([[41], [123]].map sg) = zs (wdT wFn :: nmT nm :: sg [40] :: (comT pmT ps ++ [sg [41], sg [123]])) from by simp [zs]] at hz
 exact ⟨_, rfl, hz⟩
structure Bg (B : Nat) (rb : Nat) (w w' : World) (l l' : Value) (T' : List (Tk × Int)) : Prop where
 own : w'.ownsRow B 95 4 l' T'.length (cellsZ T')
 box : rowG #[l'] w' rb
 only : Only (fun j => l.ownBlock = some j ∨ j = rb) w w'
def nmO (s : List UInt8) : List Tk := if s = [] then [] else [nmT s]
def wdO (s : List UInt8) : List Tk := if s = [] then [] else [wdT s]
theorem str_nil_ne {s : List UInt8} (h : s ≠ []) : (str s).toList.isEmpty = false := by
 rw [ByteArray.toList_eq, str_list]
 cases s with
 | nil => exact absurd rfl h
 | cons a r => rfl
theorem bg_own {w w' : World} {B n : Nat} {e : TypeId} {size : Nat} {l : Value} {xs : List Value} {rb : Nat} (h : w.ownsRow B e size l n xs) (ho : Only (fun j => j = rb) w w') (hb : rb < B) : w'.ownsRow B e size l n xs := own_only h ho (fun j hj e => by subst e; exact own_new h (.inr hb) hj)
theorem row_set0' {c : Value} (v : Value) {w : World} {k : Nat} (h : rowG #[c] w k) : rowG #[v] (w.setCell ⟨k, 0, none⟩ v) k := by simpa using row_set (i := 0) (by simp) v h
theorem put_nm (s : List UInt8) (rb : Nat) (B : Nat) (l : Value) (T : List (Tk × Int)) (w : World) (hr : rowG #[l] w rb) (ho : w.ownsRow B 95 4 l T.length (cellsZ T)) (hB : B ≤ w.heap.size) (hrb : rb < B) (hl : T.length ≤ 1000000) :
 Calls Tryz.prog 181 #[.int .u8 1, .string (str s), .pointer (some ⟨rb, 0, none⟩)] w fun e w' => e = .returned (.tuple #[]) ∧ ∃ l', Bg B rb w w' l l' (T ++ zs (nmO s)) := by
 obtain ⟨i0, hi, hz0, hz1, hz2⟩ := info_parts infoT
 have c0 : w.cell? ⟨rb, 0, none⟩ = some l := hr.1 0 (by simp)
 have f0 := hr.2.1 0
 have hrl := hr.2.2
 obtain ⟨sa, sc, hform⟩ : ∃ sa sc, l = .slice sa T.length sc := by
  rcases ho.2 with ⟨h1, h2⟩ | ⟨g, cap, cur, h1, _⟩
  ·exact ⟨none, 0, by rw [h1, h2]⟩
  ·exact ⟨_, _, h1⟩
 by_cases hs : s = []
 ·subst hs
  rw [show str [] = ⟨#[]⟩ from rfl]
  go_enter Tryz.func181, Tryz.ntmps181
  go_wp2
  go_end0
  exact ⟨rfl, l, by simpa [nmO, zs] using ho, hr, Only.refl _ _⟩
 ·have hne := str_nil_ne hs
  have he : nmO s = [nmT s] := if_neg hs
  rw [he]
  obtain ⟨M, hM⟩ : ∃ M, M = T.length := ⟨_, rfl⟩
  rw [← hM] at ho hl
  have HM := Lib.hid hM
  clear hM hform
  go_enter Tryz.func181, Tryz.ntmps181
  go_wp2_with (at_builtin; refine wpList_append_lies _ rfl _ _ 63 rfl B 95 i0 _ 4 40 Tryz.underlying63 hi hz0 hz1 hz2 rfl (by decide) l M (cellsZ T) rfl (ho.alloc _) ⟨w.heap.size, 0, none⟩ 1 1 (cellsZ (zs [nmT s])) rfl rfl ?cN ?c0 (by decide) ?c1 ?c2 ?c3 _ rfl ?_)
  case cN => first | exact news_ok (cellsZ (zs [nmT s])) 95 w | exact fun j u h => h
  case c0 => exact cellsZ_one _
  case c1 => unfold maxLen; omega
  case c2 => omega
  case c3 => first | omega | (simp; omega)
  intro g cap' w5 hown hgrow hat hlt
  have hT := (tl_append hown HM.out rfl hgrow hat (by simp)).pre (aB (Below.refl w.heap.size w) (.cells (cellsZ (zs [nmT s])).toArray 95))
  have hr5 := rowG_only hr hT.only (own_new ho (.inr hrb))
  have d0 : w5.cell? ⟨rb, 0, none⟩ = some l := hr5.1 0 (by simp)
  have e0 := hr5.2.1 0
  have hrl5 := hr5.2.2
  go_wp2
  go_end0
  exact ⟨rfl, .slice (some ⟨g, 0, none⟩) (M + 1) cap', bg_own hT.own ((Only.refl _ _).setCell rfl) hrb, row_set0' _ hr5, (hT.only.mono (fun j h => .inl h)).setCell (.inr rfl)⟩
theorem put_wd (s : List UInt8) (rb : Nat) (B : Nat) (l : Value) (T : List (Tk × Int)) (w : World) (hr : rowG #[l] w rb) (ho : w.ownsRow B 95 4 l T.length (cellsZ T)) (hB : B ≤ w.heap.size) (hrb : rb < B) (hl : T.length ≤ 1000000) :
 Calls Tryz.prog 181 #[.int .u8 2, .string (str s), .pointer (some ⟨rb, 0, none⟩)] w fun e w' => e = .returned (.tuple #[]) ∧ ∃ l', Bg B rb w w' l l' (T ++ zs (wdO s)) := by
 obtain ⟨i0, hi, hz0, hz1, hz2⟩ := info_parts infoT
 have c0 : w.cell? ⟨rb, 0, none⟩ = some l := hr.1 0 (by simp)
 have f0 := hr.2.1 0
 have hrl := hr.2.2
 obtain ⟨sa, sc, hform⟩ : ∃ sa sc, l = .slice sa T.length sc := by
  rcases ho.2 with ⟨h1, h2⟩ | ⟨g, cap, cur, h1, _⟩
  ·exact ⟨none, 0, by rw [h1, h2]⟩
  ·exact ⟨_, _, h1⟩
 by_cases hs : s = []
 ·subst hs
  rw [show str [] = ⟨#[]⟩ from rfl]
  go_enter Tryz.func181, Tryz.ntmps181
  go_wp2
  go_end0
  exact ⟨rfl, l, by simpa [wdO, zs] using ho, hr, Only.refl _ _⟩
 ·have hne := str_nil_ne hs
  have he : wdO s = [wdT s] := if_neg hs
  rw [he]
  obtain ⟨M, hM⟩ : ∃ M, M = T.length := ⟨_, rfl⟩
  rw [← hM] at ho hl
  have HM := Lib.hid hM
  clear hM hform
  go_enter Tryz.func181, Tryz.ntmps181
  go_wp2_with (at_builtin; refine wpList_append_lies _ rfl _ _ 63 rfl B 95 i0 _ 4 40 Tryz.underlying63 hi hz0 hz1 hz2 rfl (by decide) l M (cellsZ T) rfl (ho.alloc _) ⟨w.heap.size, 0, none⟩ 1 1 (cellsZ (zs [wdT s])) rfl rfl ?cN ?c0 (by decide) ?c1 ?c2 ?c3 _ rfl ?_)
  case cN => first | exact news_ok (cellsZ (zs [wdT s])) 95 w | exact fun j u h => h
  case c0 => exact cellsZ_one _
  case c1 => unfold maxLen; omega
  case c2 => omega
  case c3 => first | omega | (simp; omega)
  intro g cap' w5 hown hgrow hat hlt
  have hT := (tl_append hown HM.out rfl hgrow hat (by simp)).pre (aB (Below.refl w.heap.size w) (.cells (cellsZ (zs [wdT s])).toArray 95))
  have hr5 := rowG_only hr hT.only (own_new ho (.inr hrb))
  have d0 : w5.cell? ⟨rb, 0, none⟩ = some l := hr5.1 0 (by simp)
  have e0 := hr5.2.1 0
  have hrl5 := hr5.2.2
  go_wp2
  go_end0
  exact ⟨rfl, .slice (some ⟨g, 0, none⟩) (M + 1) cap', bg_own hT.own ((Only.refl _ _).setCell rfl) hrb, row_set0' _ hr5, (hT.only.mono (fun j h => .inl h)).setCell (.inr rfl)⟩
end Go.Proofs.YtfbjljcmmbdhkaaGreatDoor
