/- What Large's walk stands on: rows that are appended at a drawn step; statements as cells; how many there are. -/
import Derived.Test.YtfpoflddnlbpjaaGreatDoorUdP
import Derived.Test.YtfpoflddnlbpjaaGreatDoorZvP
import Derived.Test.YtfpoflddnlbpjaaGreatDoorYbP
import Derived.Deep.CutRange
import Derived.Deep.DeepAppendWide
namespace Go.Proofs.YtfpoflddnlbpjaaGreatDoor
open Go Go.ChangeShapes Go.WideShapes Go.ChangeAt Go.RowKit
set_option linter.unusedVariables false
theorem wp_append_row {P : Program} (w : World) {o : Oper} {a : Act} {K : Act → World → Prop} {Q : Exit → Act → World → Prop} (s x : Operand) (t : TypeId)
    (ho : o.op = .call { callee := .builtin .append, args := #[s, x], argTypes := #[t, t] })
    (base : Nat) (e : TypeId) (i : TypeInfo) (z : Value) (size bytes : Nat) (ht : P.underlying t = some (.slice e)) (hi : P.info? e = some i) (hz : i.zero = some z)
    (hsize : i.size = size) (hby : i.bytes = bytes) (hzs : z.cells.size = size) (hsz : 0 < size)
    (v : Value) (n : Nat) (xs : List Value) (hs : a.eval s = v) (hown : w.ownsRow base e size v n xs)
    (mx : Option Addr) (m c : Nat) (news : List Value) (hx : a.eval x = .slice mx m c) (hl : news.length = m * size) (hnews : 0 < m → ∃ ad, mx = some ad ∧ ∀ j u, news[j]? = some u → w.cell? (ad.add j) = some u) (h1 : ∀ u ∈ news, u.oneCell' = true)
    (h63 : n + m ≤ maxLen) (hbytes : (n + m) * bytes ≤ 140737488355328) (hbase : base ≤ w.heap.size)
    (h : ∀ (a' : Option Addr) (c' : Nat) w', w'.ownsRow base e size (.slice a' (n + m) c') (n + m) (xs ++ news) → w.grownBy w' v.ownBlock → (∀ j, (Value.slice a' (n + m) c').ownBlock = some j → v.ownBlock = some j ∨ j = w.heap.size) → K (a.put o.dst (.slice a' (n + m) c')) w') : Oper.wp P o a w K Q := by
  by_cases hm : m = 0
  · subst hm
    obtain rfl : news = [] := List.length_eq_zero_iff.1 (by omega)
    obtain ⟨b, cc, rfl⟩ := row_form hown
    have hrun := run_append_zero (P := P) (w := w) base t o.type e i size ht hi _ n xs hown mx c
    have hk := h b cc w (by rw [List.append_nil]; exact hown) grown_none (fun j hj => .inl hj)
    unfold Oper.wp
    simp [execOp, ho, resolve, invoke, builtin, hs, hx, hrun, Result.andThen]
    exact hk
  · obtain ⟨ad, rfl, hc⟩ := hnews (by omega)
    refine wp_append_lies w s x t ho base e i z size bytes ht hi hz hsize hby hzs hsz v n xs hs hown ad m c news hx hl hc h1 (by omega) h63 hbytes hbase _ rfl ?_
    intro g cap w' h2 h3 h4 h5
    exact h _ _ w' h2 h3 (fun j hj => by
      simp only [Value.ownBlock, Option.some.injEq] at hj
      subst hj
      exact h4)
theorem wpList_append_rowW {P : Program} (w : World) {ops : Array Oper} {rest : List Oper} {o : Oper} {a : Act} {Q : Exit → Act → World → Prop} (hgd : o.guard = none) (s x : Operand) (t : TypeId)
    (ho : o.op = .call { callee := .builtin .append, args := #[s, x], argTypes := #[t, t] })
    (base : Nat) (e : TypeId) (i : TypeInfo) (z : Value) (size bytes : Nat) (ht : P.underlying t = some (.slice e)) (hi : P.info? e = some i) (hz : i.zero = some z)
    (hsize : i.size = size) (hby : i.bytes = bytes) (hzs : z.cells.size = size) (hsz : 0 < size)
    (v : Value) (n : Nat) (xs : List Value) (hs : a.eval s = v) (hown : w.ownsRow base e size v n xs)
    (mx : Option Addr) (m c : Nat) (news : List Value) (hx : a.eval x = .slice mx m c) (hl : news.length = m * size) (hnews : 0 < m → ∃ ad, mx = some ad ∧ ∀ j u, news[j]? = some u → w.cell? (ad.add j) = some u) (h1 : ∀ u ∈ news, u.oneCell' = true)
    (h63 : n + m ≤ maxLen) (hbytes : ((n + m) + (n + m) / 4 + 192) * bytes ≤ 281474976710656) (hbase : base ≤ w.heap.size)
    (h : ∀ (a' : Option Addr) (c' : Nat) w', w'.ownsRow base e size (.slice a' (n + m) c') (n + m) (xs ++ news) → w.grownBy w' v.ownBlock → wpList P ops Q rest (a.put o.dst (.slice a' (n + m) c')) w') : wpList P ops Q (o :: rest) a w := by
  by_cases hm : m = 0
  · subst hm
    obtain rfl : news = [] := List.length_eq_zero_iff.1 (by omega)
    obtain ⟨b, cc, rfl⟩ := row_form hown
    refine wpList_append_zero hgd s x t ho base e i size ht hi _ n xs hs hown mx c hx ?_
    exact h b cc w (by rw [List.append_nil]; exact hown) grown_none
  · obtain ⟨ad, rfl, hc⟩ := hnews (by omega)
    refine wpList_append_own_wide w hgd s x t ho base e i z size bytes ht hi hz hsize hby hzs hsz v n xs hs hown ad m c news hx hl hc h1 h63 hbytes hbase ?_
    intro v' w' h2 h3 _
    obtain ⟨a', c', rfl⟩ := row_form h2
    exact h a' c' w' h2 h3
theorem sts_lie {G : Nat → Prop} {w : World} : ∀ (l : List St) (ma : Option Addr), StsAt G w l ma → ∃ Ls : List Sx, Ls.map (·.x) = l ∧ (∀ K ∈ Ls, K.is G w) ∧ (0 < l.length → ∃ b o, ma = some ⟨b, o, none⟩ ∧ G b ∧ ∀ j u, (sxs Ls)[j]? = some u → w.cell? ⟨b, o + j, none⟩ = some u) := by
  intro l
  induction l with
  | nil => intro ma h; exact ⟨[], rfl, fun K hK => by simp at hK, fun h => by simp at h⟩
  | cons x l ih =>
    intro ma h
    cases h with
    | @cons k nm fr sec mu ex ar bd el r b off mx ma mb ml cx ca cb cl hg c0 c1 c2 c3 c4 c5 c6 c7 c8 hk hx ha hb hl hX hA hB hL hr =>
      obtain ⟨Ls, h1, h2, h3⟩ := ih _ hr
      refine ⟨⟨k, nm, fr, sec, mu, mx, ex.length, cx, ma, ar.length, ca, mb, bd.length, cb, ml, el.length, cl, .mk k nm fr sec mu ex ar bd el⟩ :: Ls, by simp [h1], ?_, fun _ => ⟨b, off, rfl, hg, ?_⟩⟩
      · intro K hK
        rcases List.mem_cons.1 hK with rfl | hK
        · exact .mk hk hx ha hb hl hX hA hB hL
        · exact h2 K hK
      · intro j u hu
        have e : sxs (⟨k, nm, fr, sec, mu, mx, ex.length, cx, ma, ar.length, ca, mb, bd.length, cb, ml, el.length, cl, .mk k nm fr sec mu ex ar bd el⟩ :: Ls) = [.int .u8 (k : Int), .string (str nm), .string (str fr), .bool sec, .bool mu, .slice mx ex.length cx, .slice ma ar.length ca, .slice mb bd.length cb, .slice ml el.length cl] ++ sxs Ls := rfl
        rw [e] at hu
        by_cases hj : j < 9
        · obtain rfl | rfl | rfl | rfl | rfl | rfl | rfl | rfl | rfl : j = 0 ∨ j = 1 ∨ j = 2 ∨ j = 3 ∨ j = 4 ∨ j = 5 ∨ j = 6 ∨ j = 7 ∨ j = 8 := by omega
          · cases hu; exact c0
          · cases hu; exact c1
          · cases hu; exact c2
          · cases hu; exact c3
          · cases hu; exact c4
          · cases hu; exact c5
          · cases hu; exact c6
          · cases hu; exact c7
          · cases hu; exact c8
        · obtain ⟨i, rfl⟩ : ∃ i, j = i + 9 := ⟨j - 9, by omega⟩
          have hu' : (sxs Ls)[i]? = some u := by simpa using hu
          have hpos : 0 < l.length := by
            have := (List.getElem?_eq_some_iff.1 hu').1
            rw [sxs_len] at this
            have h4 : Ls.length = l.length := by rw [← h1]; simp
            omega
          obtain ⟨b', o', e', -, hc⟩ := h3 hpos
          cases e'
          rw [show off + (i + 9) = off + 9 + i by omega]
          exact hc i u hu'
theorem szL_app : ∀ (a b : List St), szL (a ++ b) = szL a + szL b := by
  intro a
  induction a with
  | nil => intro b; rw [List.nil_append, szL, Nat.zero_add]
  | cons x a ih => intro b; rw [List.cons_append, szL, szL, ih]; omega
def totS : List Fd → Nat
  | [] => 0
  | f :: r => szL f.bd + totS r
theorem totS_app : ∀ (a b : List Fd), totS (a ++ b) = totS a + totS b := by
  intro a
  induction a with
  | nil => intro b; rw [List.nil_append, totS, Nat.zero_add]
  | cons x a ih => intro b; rw [List.cons_append, totS, totS, ih]; omega
def LgP (w : World) (l : List Fd) (r : Ending) (w' : World) : Prop := (∃ b, r = .returned (.bool b) ∧ (b = false → l.length ≤ 30 ∧ totS l ≤ 900)) ∧ Below w.heap.size w w'
theorem lgp_true {w w' : World} {l : List Fd} (hB : Below w.heap.size w w') : LgP w l (.returned (.bool true)) w' := ⟨⟨_, rfl, fun h => by cases h⟩, hB⟩
theorem lgp_false {w w' : World} {l : List Fd} (h1 : l.length ≤ 30) (h2 : totS l ≤ 900) (hB : Below w.heap.size w w') : LgP w l (.returned (.bool false)) w' := ⟨⟨_, rfl, fun _ => ⟨h1, h2⟩⟩, hB⟩
theorem bfs_step {T0 j : Nat} {L Lb Le : List Sx} {bd el : List St} (hj : j < L.length) (hb : Lb.map (·.x) = bd) (he : Le.map (·.x) = el) (hbd : bd = (L[j]).x.bd) (hel : el = (L[j]).x.el) (h : j + szL ((L.drop j).map (·.x)) = T0) : (j + 1) + szL ((((L ++ Lb) ++ Le).drop (j + 1)).map (·.x)) = T0 := by
  rw [List.append_assoc, List.drop_append_of_le_length (by omega), List.map_append, List.map_append, szL_app, szL_app, hb, he]
  rw [List.drop_eq_getElem_cons hj, List.map_cons, szL, sz_s, ← hbd, ← hel] at h
  omega
end Go.Proofs.YtfpoflddnlbpjaaGreatDoor
