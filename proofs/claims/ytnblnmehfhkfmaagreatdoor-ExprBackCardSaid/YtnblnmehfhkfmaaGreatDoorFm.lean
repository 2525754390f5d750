/- An append of a row of tokens, whatever its length; plain: what ExprBack asks of what is told, and of what is read. -/
import Derived.Test.YtnblnmehfhkfmaaGreatDoorFe
import Derived.Test.YtnblnmehfhkfmaaGreatDoorFl
import Derived.Test.YtnblnmehfhkfmaaGreatDoorEs
namespace Go.Proofs.YtnblnmehfhkfmaaGreatDoor
open Go.ChangeShapes Go.WideShapes Go.ChangeAt Go.RowKit
set_option linter.unusedVariables false
theorem rowZ_cells {w : World} {a : Addr} {m c : Nat} {N : List (Tk × Int)} (h : RowZ w (.slice (some a) m c) N) : ∀ j u, (cellsZ N)[j]? = some u → w.cell? (a.add j) = some u := by
  intro j u hu
  obtain ⟨hj, _⟩ := List.getElem?_eq_some_iff.1 hu
  rw [cellsZ_len] at hj
  obtain ⟨ma, c', he, hc⟩ := h.row
  simp only [Value.slice.injEq] at he
  obtain ⟨rfl, -, -⟩ := he
  obtain ⟨b, o, ha, hl, p0, p1, p2, p3⟩ := hc (j / 4) (by omega)
  obtain ⟨q0, q1, q2, q3⟩ := cellsZ_at N (j / 4) (by omega)
  have ha := Option.some.inj ha
  subst ha
  rw [addp]
  have hr : j % 4 = 0 ∨ j % 4 = 1 ∨ j % 4 = 2 ∨ j % 4 = 3 := by omega
  rcases hr with hr | hr | hr | hr
  · rw [show j = j / 4 * 4 by omega] at hu
    rw [q0] at hu
    rw [show o + j = o + j / 4 * 4 by omega, p0, hu]
  · rw [show j = j / 4 * 4 + 1 by omega] at hu
    rw [q1] at hu
    rw [show o + j = o + j / 4 * 4 + 1 by omega, p1, hu]
  · rw [show j = j / 4 * 4 + 2 by omega] at hu
    rw [q2] at hu
    rw [show o + j = o + j / 4 * 4 + 2 by omega, p2, hu]
  · rw [show j = j / 4 * 4 + 3 by omega] at hu
    rw [q3] at hu
    rw [show o + j = o + j / 4 * 4 + 3 by omega, p3, hu]
theorem grown_refl (w : World) (r : Option Nat) : w.grownBy w r := ⟨rfl, rfl, rfl, Nat.le_refl _, fun _ _ _ => rfl⟩
theorem wpList_append_rowZ {w : World} {ops : Array Oper} {rest : List Oper} {o : Oper} {a : Act} {Q : Exit → Act → World → Prop} (hgd : o.guard = none) (s x : Operand)
    (ho : o.op = .call { callee := .builtin .append, args := #[s, x], argTypes := #[31, 31] })
    (base : Nat) (v : Value) (T : List (Tk × Int)) (hs : a.eval s = v) (hown : w.ownsRow base 39 4 v T.length (cellsZ T)) (sv : Value) (N : List (Tk × Int)) (hx : a.eval x = sv) (hsrc : RowZ w sv N) (hlen : T.length + N.length ≤ 1000000) (hbase : base ≤ w.heap.size)
    (h : ∀ v' w', w'.ownsRow base 39 4 v' (T ++ N).length (cellsZ (T ++ N)) → w.grownBy w' v.ownBlock → (∀ j, v'.ownBlock = some j → v.ownBlock = some j ∨ w.heap.size ≤ j) → wpList Tryz.prog ops Q rest (a.put o.dst v') w') : wpList Tryz.prog ops Q (o :: rest) a w := by
  obtain ⟨i0, hi, hz0, hz1, hz2⟩ := info_parts infoT
  have hsrc' := hsrc
  obtain ⟨ma, c, rfl, hc⟩ := hsrc'.row
  by_cases h0 : N = []
  · subst h0
    exact wpList_append_zero hgd s x 31 ho base 39 i0 4 Tryz.underlying31 hi v T.length (cellsZ T) hs hown ma c hx (h v w (by simpa using hown) (grown_refl w _) (fun j hj => .inl hj))
  · have hp : 0 < N.length := List.length_pos_iff.2 h0
    obtain ⟨b, off, rfl, _⟩ := hc 0 hp
    refine wpList_append_lies _ hgd s x 31 ho base 39 i0 _ 4 40 Tryz.underlying31 hi hz0 hz1 hz2 rfl (by decide) v T.length (cellsZ T) hs hown ⟨b, off, none⟩ N.length c (cellsZ N) hx (cellsZ_len N) (rowZ_cells hsrc) (cellsZ_one N) hp (by unfold maxLen; omega) (by omega) hbase _ rfl ?_
    intro g cap w' hown' hg hat hlt
    refine h _ w' (by rw [List.length_append, cellsZ_app]; exact hown') hg (fun j hj => ?_)
    simp only [Value.ownBlock, Option.some.injEq] at hj
    subst hj
    rcases hat with h1 | h1
    · exact .inl h1
    · exact .inr (by omega)
theorem bare_zs7 (T : List Tk) : bareZ (zs T) = T := by
  unfold bareZ zs; rw [List.map_map]; exact List.map_id T
theorem bareZ_app (a b : List (Tk × Int)) : bareZ (a ++ b) = bareZ a ++ bareZ b := by simp [bareZ]
theorem bareZ_len (a : List (Tk × Int)) : (bareZ a).length = a.length := by simp [bareZ]
theorem tell_nodes : ∀ (d : Nat) (x : Xp), mayB d x = true → x.nodes ≤ (tellF d x).length := by
  intro d
  induction d with
  | zero => intro x h; simp [mayB] at h
  | succ d ih =>
    intro x h
    obtain ⟨k, n, s, o, l⟩ := x
    rw [mayB, Bool.and_eq_true] at h
    obtain ⟨hf, hl⟩ := h
    have hk := fit_k hf
    rw [Xp.nodes]
    rcases hk with rfl | rfl | rfl | rfl | rfl
    · obtain ⟨_, _, hm⟩ := fit1 hf
      obtain rfl : l = [] := List.length_eq_zero_iff.1 hm
      simp [tellF, nodesL]
    · obtain ⟨_, _, _, hm⟩ := fit2 hf
      obtain rfl : l = [] := List.length_eq_zero_iff.1 hm
      simp [tellF, nodesL]
    · obtain ⟨rfl, rfl, ho, hm⟩ := fit3 hf
      match l, hm with
      | [a, b], _ =>
        simp only [List.all_cons, List.all_nil, Bool.and_true, Bool.and_eq_true] at hl
        have ia := ih a hl.1
        have ib := ih b hl.2
        rw [show tellF (d + 1) (.mk 3 0 [] o [a, b]) = sg [40] :: (tellF d a ++ sg (opS o) :: (tellF d b ++ [sg [41]])) from rfl]
        simp only [nodesL, List.length_cons, List.length_append, List.length_nil]
        omega
    · obtain ⟨_, _, _, hm⟩ := fit4 hf
      obtain rfl : l = [] := List.length_eq_zero_iff.1 hm
      simp [tellF, nodesL]
    · obtain ⟨rfl, hn, rfl, hm⟩ := fit5 hf
      match l, hm with
      | [a], _ =>
        simp only [List.all_cons, List.all_nil, Bool.and_true] at hl
        have ia := ih a hl
        rw [show tellF (d + 1) (.mk 5 0 s 0 [a]) = nmT s :: sg [91] :: (tellF d a ++ [sg [93]]) from rfl]
        simp only [nodesL, List.length_cons, List.length_append, List.length_nil]
        omega
theorem bz_sg (l : List UInt8) : bzT (sg l) = sg l := rfl
theorem bz_nm (l : List UInt8) : bzT (nmT l) = nmT l := rfl
theorem bz_tell : ∀ (d : Nat) (x : Xp), (tellF d x).map bzT = tellF d x := by
  intro d
  induction d with
  | zero => intro x; rfl
  | succ d ih =>
    intro x
    obtain ⟨k, n, s, o, l⟩ := x
    rw [tellF]
    split
    · rfl
    · split
      · rfl
      · split
        · rfl
        · split
          · simp only [List.map_cons, List.map_append, List.map_nil, bz_sg, bz_nm, ih]
          · simp only [List.map_cons, List.map_append, List.map_nil, bz_sg, ih]
/-- What is told, read out of a row of tokens around it. -/
theorem rd_row (e : Xp) (hm : mayB 40 e = true) (A C : List (Tk × Int)) (hC : e.k = 2 → ∀ c r, bareZ C = c :: r → c ≠ sg [91]) :
    rdE 40 (bareZ (A ++ zs (tellF 40 e) ++ C)) A.length = .ok e (A.length + (zs (tellF 40 e)).length) := by
  rw [bareZ_app, bareZ_app, bare_zs7, List.append_assoc, zs_len]
  have := rd_tell 40 e hm (bareZ A) (bareZ C) hC
  rw [bareZ_len] at this
  exact this
/-- What is read, its tokens' numbers and texts struck where a token has none, is what is told. -/
theorem bz_seg {B : List (Tk × Int)} {p q : Nat} {x : Xp} (h : rdE 40 (bareZ B) p = .ok x q) : (bzL ((B.drop p).take (q - p))).map (·.1) = (zs (tellF 40 x)).map (·.1) := by
  obtain ⟨_, _, _, h4⟩ := tell_rd 40 _ _ _ _ h
  have h5 : bareZ ((B.drop p).take (q - p)) = tellF 40 x := by rw [← h4]; simp [bareZ, List.map_take, List.map_drop]
  have h6 : (bzL ((B.drop p).take (q - p))).map (·.1) = (bareZ ((B.drop p).take (q - p))).map bzT := by unfold bzL bareZ; rw [List.map_map, List.map_map]; rfl
  rw [h6, h5, bz_tell]
  exact (bare_zs7 _).symm
end Go.Proofs.YtnblnmehfhkfmaaGreatDoor
