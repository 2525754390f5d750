/- Contract of Large: what it lets through has at most 2000 expressions. Rows of expressions. -/
import Derived.Test.YtnblnmehfhkfmaaGreatDoorFa
import Derived.Deep.AppendLies
import Derived.Laws.AppendOwnNone
namespace Go.Proofs.YtnblnmehfhkfmaaGreatDoor
open Go.ChangeShapes Go.WideShapes Go.ChangeAt Go.RowKit
set_option linter.unusedVariables false
/-- An expression's cells in a row. -/
structure Kx where
  k : Nat
  n : Nat
  s : List UInt8
  o : Nat
  ma : Option Addr
  m : Nat
  cap : Nat
  x : Xp
def Kx.cells (K : Kx) : List Value := [.int .u8 (K.k : Int), .int .u64 (K.n : Int), .string (str K.s), .int .u8 (K.o : Int), .slice K.ma K.m K.cap]
def Kx.is (G : Nat → Prop) (w : World) (K : Kx) : Prop := IsE G w (.agg #[.int .u8 (K.k : Int), .int .u64 (K.n : Int), .string (str K.s), .int .u8 (K.o : Int), .slice K.ma K.m K.cap]) K.x
def kxs (L : List Kx) : List Value := L.flatMap Kx.cells
theorem kxs_len (L : List Kx) : (kxs L).length = L.length * 5 := by
  induction L with
  | nil => rfl
  | cons K L ih =>
    show (_ :: _ :: _ :: _ :: _ :: kxs L).length = _
    simp only [List.length_cons, ih]
    omega
theorem kxs_app (a b : List Kx) : kxs (a ++ b) = kxs a ++ kxs b := by simp [kxs]
theorem kxs_one (L : List Kx) : ∀ u ∈ kxs L, u.oneCell' = true := by
  intro u hu
  unfold kxs at hu
  obtain ⟨K, _, hp⟩ := List.mem_flatMap.1 hu
  unfold Kx.cells at hp
  simp only [List.mem_cons, List.not_mem_nil, or_false] at hp
  rcases hp with rfl | rfl | rfl | rfl | rfl <;> rfl
theorem kxs_at : ∀ (L : List Kx) (i : Nat) (h : i < L.length) (r : Nat) (hr : r < 5), (kxs L)[i * 5 + r]? = L[i].cells[r]? := by
  intro L
  induction L with
  | nil => intro i h; simp at h
  | cons K L ih =>
    intro i h r hr
    cases i with
    | zero =>
      have hc : r = 0 ∨ r = 1 ∨ r = 2 ∨ r = 3 ∨ r = 4 := by omega
      rcases hc with rfl | rfl | rfl | rfl | rfl <;> rfl
    | succ i =>
      have := ih i (by simpa using h) r hr
      rw [show (i + 1) * 5 + r = (i * 5 + r) + 1 + 1 + 1 + 1 + 1 by omega]
      exact this
theorem kids_row {G : Nat → Prop} {w : World} {b : Nat} : ∀ (l : List Xp) (off : Nat), KidsAt G w l (some ⟨b, off, none⟩) → ∃ R : List Kx, R.map (·.x) = l ∧ (∀ j u, (kxs R)[j]? = some u → w.cell? ⟨b, off + j, none⟩ = some u) ∧ ∀ K ∈ R, K.is G w := by
  intro l
  induction l with
  | nil => intro off _; exact ⟨[], rfl, fun j u h => by simp [kxs] at h, fun K h => by simp at h⟩
  | cons x r ih =>
    intro off hk
    cases hk with
    | @cons k n s o l _ _ _ ma cap hg c0 c1 c2 c3 c4 ho hl hk hr =>
      obtain ⟨R, hR, hc, hi⟩ := ih (off + 5) hr
      refine ⟨⟨k, n, s, o, ma, l.length, cap, .mk k n s o l⟩ :: R, by simp [hR], fun j u hu => ?_, fun K hK => ?_⟩
      · match j, hu with
        | 0, hu => cases hu; exact c0
        | 1, hu => cases hu; exact c1
        | 2, hu => cases hu; exact c2
        | 3, hu => cases hu; exact c3
        | 4, hu => cases hu; exact c4
        | j + 5, hu =>
          have := hc j u hu
          rw [show off + (j + 5) = off + 5 + j by omega]
          exact this
      · rcases List.mem_cons.1 hK with rfl | hK
        · exact IsE.mk ho hl hk
        · exact hi K hK
theorem kx_of {G : Nat → Prop} {w : World} {K : Kx} (h : K.is G w) : K.m = K.x.l.length ∧ K.m ≤ 140737488355328 ∧ KidsAt G w K.x.l K.ma ∧ K.s = K.x.s := by
  obtain ⟨k, n, s, o, ma, m, cap, x⟩ := K
  unfold Kx.is at h
  generalize hv : (Value.agg #[.int .u8 (k : Int), .int .u64 (n : Int), .string (str s), .int .u8 (o : Int), .slice ma m cap]) = v at h
  cases h with
  | @mk k' n' s' o' l' ma' cap' ho hl hk =>
    simp only [Value.agg.injEq, Array.mk.injEq, List.cons.injEq, Value.int.injEq, Value.string.injEq, Value.slice.injEq, and_true, true_and] at hv
    obtain ⟨_, _, hs, _, rfl, rfl, rfl⟩ := hv
    refine ⟨rfl, hl, hk, ?_⟩
    have := congrArg (fun b : ByteArray => b.data.toList) hs
    simp only [str_list] at this
    exact this
theorem kx_mv {G : Nat → Prop} {w w' : World} {K : Kx} {B : Nat} (h : K.is G w) (hb : Below B w w') (hs : ∀ b, G b → b < B) : K.is G w' := IsE.below h hb hs
theorem kx_all {G : Nat → Prop} {w : World} {K : Kx} (h : K.is G w) : K.x = .mk K.k K.n K.s K.o K.x.l ∧ K.o < 256 ∧ K.m = K.x.l.length ∧ K.m ≤ 140737488355328 ∧ KidsAt G w K.x.l K.ma := by
  obtain ⟨k, n, s, o, ma, m, cap, x⟩ := K
  unfold Kx.is at h
  generalize hv : (Value.agg #[.int .u8 (k : Int), .int .u64 (n : Int), .string (str s), .int .u8 (o : Int), .slice ma m cap]) = v at h
  cases h with
  | @mk k' n' s' o' l' ma' cap' ho hl hk =>
    simp only [Value.agg.injEq, Array.mk.injEq, List.cons.injEq, Value.int.injEq, Value.string.injEq, Value.slice.injEq, and_true, true_and] at hv
    obtain ⟨h1, h2, hs, h3, rfl, rfl, rfl⟩ := hv
    have hs' := congrArg (fun b : ByteArray => b.data.toList) hs
    simp only [str_list] at hs'
    obtain rfl : k = k' := by omega
    obtain rfl : n = n' := by omega
    obtain rfl : o = o' := by omega
    subst hs'
    exact ⟨rfl, ho, rfl, hl, hk⟩
/-- A row of expressions lies as kids do. -/
theorem kids_of_row {G : Nat → Prop} {w : World} {b : Nat} (hG : G b) : ∀ (L : List Kx) (off : Nat), (∀ j u, (kxs L)[j]? = some u → w.cell? ⟨b, off + j, none⟩ = some u) → (∀ K ∈ L, K.is G w) → KidsAt G w (L.map (·.x)) (some ⟨b, off, none⟩)
  | [], _, _, _ => .nil
  | K :: r, off, h, hK => by
    obtain ⟨hx, ho, hm, hl, hk⟩ := kx_all (hK K (List.mem_cons_self ..))
    have h0 := h 0 _ rfl
    have h1 := h 1 _ rfl
    have h2 := h 2 _ rfl
    have h3 := h 3 _ rfl
    have h4 := h 4 _ rfl
    rw [List.map_cons, hx]
    rw [hm] at h4 hl
    refine .cons hG h0 h1 h2 h3 h4 ho hl hk (kids_of_row hG r (off + 5) (fun j u hu => ?_) (fun K' h' => hK K' (List.mem_cons_of_mem _ h')))
    have := h (5 + j) u (by rw [show 5 + j = j + 1 + 1 + 1 + 1 + 1 by omega]; exact hu)
    rw [show off + 5 + j = off + (5 + j) by omega]
    exact this
end Go.Proofs.YtnblnmehfhkfmaaGreatDoor
