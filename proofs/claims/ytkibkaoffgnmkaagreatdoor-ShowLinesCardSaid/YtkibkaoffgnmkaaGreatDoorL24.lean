/- Contracts of a row's methods secret and expr. -/
import Derived.Test.YtkibkaoffgnmkaaGreatDoorL23
namespace Go.Proofs.YtkibkaoffgnmkaaGreatDoor
set_option linter.unusedVariables false
set_option linter.unusedSimpArgs false
set_option maxRecDepth 100000
set_option maxHeartbeats 200000000
open Go.ChangeShapes Go.WideShapes Go.ChangeAt Go.RowKit
theorem wpList_append_lies2 {P : Program} {w : World} {ops : Array Oper} {rest : List Oper} {o : Oper} {a : Act} {Q : Exit → Act → World → Prop} (hgd : o.guard = none) (s x : Operand) (t u : TypeId)
  (ho : o.op = .call { callee := .builtin .append, args := #[s, x], argTypes := #[t, u] })
  (base : Nat) (e : TypeId) (i : TypeInfo) (z : Value) (size bytes : Nat) (ht : P.underlying t = some (.slice e)) (hu : P.underlying u = some (.slice e)) (hi : P.info? e = some i) (hz : i.zero = some z)
  (hsize : i.size = size) (hby : i.bytes = bytes) (hzs : z.cells.size = size) (hsz : 0 < size)
  (v : Value) (n : Nat) (xs : List Value) (hs : a.eval s = v) (hown : w.ownsRow base e size v n xs)
  (ad : Addr) (m c : Nat) (news : List Value) (hx : a.eval x = .slice (some ad) m c) (hl : news.length = m * size) (hnews : ∀ j u, news[j]? = some u → w.cell? (ad.add j) = some u) (h1 : ∀ u ∈ news, u.oneCell' = true)
  (hm : 0 < m) (h63 : n + m ≤ maxLen) (hbytes : (n + m) * bytes ≤ 140737488355328) (hbase : base ≤ w.heap.size) (H : Nat) (hH : w.heap.size = H)
  (h : ∀ g cap w', w'.ownsRow base e size (.slice (some ⟨g, 0, none⟩) (n + m) cap) (n + m) (xs ++ news) → w.grownBy w' v.ownBlock → (v.ownBlock = some g ∨ g = H) → g < w'.heap.size → wpList P ops Q rest (a.put o.dst (.slice (some ⟨g, 0, none⟩) (n + m) cap)) w') : wpList P ops Q (o :: rest) a w := by
 refine wpList_plain hgd fun K hK => ?_
 obtain ⟨g, cap, w', hr, h2, h3, h4, h5⟩ := run_append_lies (P := P) w t o.type base e i z size bytes ht hi hz hsize hby hzs hsz v n xs hown ad m c news hl hnews h1 hm h63 hbytes hbase H hH
 obtain ⟨sa, sc, rfl⟩ : ∃ sa sc, v = .slice sa n sc := by
  rcases hown.2 with ⟨rfl, rfl⟩ | ⟨g, cap, cur, rfl, _⟩
  ·exact ⟨_, _, rfl⟩
  ·exact ⟨_, _, rfl⟩
 rw [← append_tu ht hu] at hr
 unfold Oper.wp execOp
 simp only [ho, resolve, invoke, builtin, Sem.run_bind, Sem.run_pure, Result.andThen_ok, List.map_toArray, List.map_cons, List.map_nil, hs, hx, hr]
 exact hK _ _ (h g cap w' h2 h3 h4 h5)
theorem xpT_pos {d : Nat} {e : Xp} (h : mayB d e = true) : 0 < (tellF d e).length := by
 cases d with
 | zero => simp [mayB] at h
 | succ d =>
  obtain ⟨k, n, s, o, l⟩ := e
  rw [mayB, Bool.and_eq_true] at h
  rcases fit_k h.1 with rfl | rfl | rfl | rfl | rfl
  ·simp [tellF]
  ·simp [tellF]
  ·obtain ⟨rfl, rfl, ho, hm⟩ := fit3 h.1
   match l, hm with
   | [a, b], _ => simp [tellF]
  ·simp [tellF]
  ·obtain ⟨rfl, hn, rfl, hm⟩ := fit5 h.1
   match l, hm with
   | [a], _ => simp [tellF]
theorem rsecret_any (b : Bool) (B : Nat) (l : Value) (T : List (Tk × Int)) (w : World) (ho : w.ownsRow B 95 4 l T.length (cellsZ T)) (hB : B ≤ w.heap.size) (hl : T.length ≤ 1000000) :
  Calls Tryz.prog 121 #[l, .bool b] w fun r w' => ∃ l', r = .returned l' ∧ Tl B w w' l l' (T ++ zs (secT b)) := by
 have hc := rword_any wSecret B l T w ho hB hl
 rw [show str wSecret = { data := #[115, 101, 99, 114, 101, 116] } from rfl] at hc
 cases b
 ·go_enter Tryz.func121, Tryz.ntmps121
  go_wp2
  go_ret
  exact ⟨_, rfl, by simpa [secT, zs] using Tl.refl ho⟩
 ·go_enter Tryz.func121, Tryz.ntmps121
  go_wp2_with (go_at_call 115; ((with_reducible refine hc.mono ?_); (rintro e w1 ⟨l1, rfl, hT⟩)))
  go_ret
  exact ⟨_, rfl, hT⟩
theorem rexpr_any (e : Xp) (v : Value) (B : Nat) (l : Value) (T : List (Tk × Int)) (w : World) (hE : IsE (fun b => b < B) w v e) (hW : Wr B w) (hm : mayB 40 e = true) (hn : e.nodes ≤ 100000) (ho : w.ownsRow B 95 4 l T.length (cellsZ T)) (hl : T.length + (xpT e).length ≤ 1000000) :
  Calls Tryz.prog 122 #[l, v] w fun r w' => ∃ l', r = .returned l' ∧ Tl B w w' l l' (T ++ zs (xpT e)) := by
 obtain ⟨i0, hi, hz0, hz1, hz2⟩ := info_parts infoT
 have hB := hW.le
 have hC := fun o => Tell_yes e v (w.alloc o) ((hE.mono (fun b hb => Nat.lt_of_lt_of_le hb hB)).of (aB (Below.refl _ _) o) |>.mono (fun b hb => Nat.lt_of_lt_of_le hb (aB (Below.refl w.heap.size w) o).size)) (hW.tb.alloc o) hm hn
 have hp := xpT_pos hm
 obtain ⟨N, hN⟩ : ∃ N, N = (zs (tellF 40 e)).length := ⟨_, rfl⟩
 have hN0 : 0 < N := by rw [hN, zs_len]; exact hp
 have hlN : T.length + N ≤ 1000000 := by rw [hN, zs_len]; exact hl
 have hw : ∃ k n s o ma cap nl, v = .agg #[.int .u8 k, .int .u64 n, .string s, .int .u8 o, .slice ma nl cap] := by cases hE; exact ⟨_, _, _, _, _, _, _, rfl⟩
 obtain ⟨k, n, s, o, ma, cap, nl, rfl⟩ := hw
 rw [← hN] at hC
 have HN := Lib.hid hN
 obtain ⟨Z, hZ⟩ : ∃ Z, Z = cellsZ (zs (tellF 40 e)) := ⟨_, rfl⟩
 rw [← hZ] at hC
 have HZ := Lib.hid hZ
 obtain ⟨M, hM⟩ : ∃ M, M = T.length := ⟨_, rfl⟩
 rw [← hM] at ho hlN
 have HM := Lib.hid hM
 have HZl : Hid (Z.length = N * 4) := Lib.hid (by rw [hZ, cellsZ_len, hN])
 have HZ1 : Hid (∀ u ∈ Z, u.oneCell' = true) := Lib.hid (by rw [hZ]; exact cellsZ_one _)
 clear hM hN hZ hE hl hm hn hp
 go_enter Tryz.func122, Tryz.ntmps122
 go_wp2_with (first | (go_at_call 150; ((with_reducible refine (hC _).mono ?_); (rintro r w1 ⟨⟨l2, rfl, ho2⟩, hb⟩); have ho1 := own_of (ho.alloc _) hb; have hB1 : Below w.heap.size w w1 := tr (aB (Below.refl _ _) _) hb; (obtain ⟨g2, cap2, rfl, hg2, hg3⟩ := ho2.form hN0))) | (at_builtin; refine wpList_append_lies2 rfl _ _ 63 62 rfl B 95 i0 _ 4 40 Tryz.underlying63 Tryz.underlying62 hi hz0 hz1 hz2 rfl (by decide) l M (cellsZ T) rfl ho1 ⟨g2, 0, none⟩ N cap2 Z rfl HZl.out ?cN HZ1.out hN0 ?c1 ?c2 ?c3 _ rfl ?_))
 case cN =>
  intro j u hu
  have hj : j < N * 4 := by have := (List.getElem?_eq_some_iff.1 hu).1; rw [HZl.out] at this; exact this
  have h2 := (ho2.cellAt j hj).trans hu
  rw [addp, Nat.zero_add]
  exact h2
 case c1 => unfold maxLen; omega
 case c2 => omega
 case c3 => have h1 := hB1.size; omega
 intro g cap' w5 hown hgrow hat hlt
 go_wp2
 go_ret
 rw [HZ.out] at hown
 exact ⟨_, rfl, (tl_append hown HM.out HN.out hgrow hat rfl).pre hB1⟩
end Go.Proofs.YtkibkaoffgnmkaaGreatDoor
