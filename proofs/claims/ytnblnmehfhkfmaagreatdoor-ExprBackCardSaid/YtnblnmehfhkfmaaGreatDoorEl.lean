/- What reading an expression leaves; kid, by what was read. -/
import Derived.Test.YtnblnmehfhkfmaaGreatDoorEk
namespace Go.Proofs.YtnblnmehfhkfmaaGreatDoor
open Go.ChangeShapes Go.WideShapes Go.ChangeAt Go.RowKit
set_option linter.unusedVariables false
abbrev zX : Value := .agg #[.int .u8 0, .int .u64 0, .string ⟨#[]⟩, .int .u8 0, .slice none 0 0]
abbrev vX (k n : Int) (s : ByteArray) (o : Int) (ma : Option Addr) (m cap : Nat) : Value := .agg #[.int .u8 k, .int .u64 n, .string s, .int .u8 o, .slice ma m cap]
def bareZ (T : List (Tk × Int)) : List Tk := T.map (·.1)
theorem bareZ_some {T : List (Tk × Int)} {p : Nat} {t : Tk} (h : (bareZ T)[p]? = some t) : tokAt T (p : Int) = t ∧ (0 : Int) ≤ p ∧ (p : Int) < T.length := by
  obtain ⟨hp, he⟩ := List.getElem?_eq_some_iff.1 h
  have hp' : p < T.length := by simpa [bareZ] using hp
  refine ⟨?_, by omega, by omega⟩
  rw [tokAt_in hp']
  simpa [bareZ] using he
theorem bareZ_none {T : List (Tk × Int)} {p : Nat} (h : (bareZ T)[p]? = none) : tokAt T (p : Int) = ⟨0, [], 0⟩ := by
  apply tokAt_out
  have := List.getElem?_eq_none_iff.1 h
  simp [bareZ] at this
  omega
def ExEr (w : World) (rb : Nat) (v : Value) (T : List (Tk × Int)) (c q : Int) (e : Ending) (w' : World) : Prop :=
  e = .returned (.tuple #[zX, .int .i64 c]) ∧ (∃ d', IsRd w' rb v T q d') ∧ Only (fun j => j = rb) w w'
def ExOk (w : World) (rb : Nat) (v : Value) (T : List (Tk × Int)) (d : Int) (x : Xp) (q : Int) (e : Ending) (w' : World) : Prop :=
  ∃ (k n : Int) (s : ByteArray) (o : Int) (ma : Option Addr) (m cap : Nat), e = .returned (.tuple #[vX k n s o ma m cap, .int .i64 0]) ∧ IsRd w' rb v T q d ∧ Only (fun j => j = rb) w w' ∧ IsE (fun b => w.heap.size ≤ b ∧ b < w'.heap.size) w' (vX k n s o ma m cap) x
def ExP (w : World) (rb : Nat) (v : Value) (T : List (Tk × Int)) (d : Int) (R : Ro) (e : Ending) (w' : World) : Prop :=
  match R with
  | .er c q => ExEr w rb v T (c : Int) (q : Int) e w'
  | .ok x q => ExOk w rb v T d x (q : Int) e w'
/-- A row of one kid. -/
structure Kr1 (w : World) (eb B : Nat) (lv : Value) (x : Xp) : Prop where
  kid : ∃ (g cap' : Nat) (k n : Int) (s : ByteArray) (o : Int) (ma : Option Addr) (m cap : Nat), lv = .slice (some ⟨g, 0, none⟩) 1 cap' ∧ w.ownsRow B 25 5 lv 1 [.int .u8 k, .int .u64 n, .string s, .int .u8 o, .slice ma m cap] ∧ ¬ g = eb ∧
    IsE (fun c => B ≤ c ∧ c < w.heap.size ∧ ¬ c = eb ∧ ¬ c = g) w (vX k n s o ma m cap) x
/-- A row of two kids. -/
structure Kr2 (w : World) (eb B : Nat) (lv : Value) (x y : Xp) : Prop where
  kid : ∃ (g cap' : Nat) (k n : Int) (s : ByteArray) (o : Int) (ma : Option Addr) (m cap : Nat) (k2 n2 : Int) (s2 : ByteArray) (o2 : Int) (ma2 : Option Addr) (m2 cap2 : Nat), lv = .slice (some ⟨g, 0, none⟩) 2 cap' ∧
    w.ownsRow B 25 5 lv 2 [.int .u8 k, .int .u64 n, .string s, .int .u8 o, .slice ma m cap, .int .u8 k2, .int .u64 n2, .string s2, .int .u8 o2, .slice ma2 m2 cap2] ∧ ¬ g = eb ∧
    IsE (fun c => B ≤ c ∧ c < w.heap.size ∧ ¬ c = eb ∧ ¬ c = g) w (vX k n s o ma m cap) x ∧ IsE (fun c => B ≤ c ∧ c < w.heap.size ∧ ¬ c = eb ∧ ¬ c = g) w (vX k2 n2 s2 o2 ma2 m2 cap2) y
theorem Kr1.only {w w' : World} {eb rb B : Nat} {lv : Value} {x : Xp} (h : Kr1 w eb B lv x) (ho : Only (fun j => j = rb ∨ j = eb) w w') (hr : rb < B) : Kr1 w' eb B lv x := by
  obtain ⟨g, cap', k, n, s, o, ma, m, cap, rfl, hown, hge, hE⟩ := h.kid
  have hg : B ≤ g := (own_lt hown rfl).1
  refine ⟨g, cap', k, n, s, o, ma, m, cap, rfl, own_only hown ho (fun j hj e => ?_), hge, ?_⟩
  · simp only [Value.ownBlock, Option.some.injEq] at hj
    subst hj
    rcases e with e | e
    · omega
    · exact hge e
  · exact (hE.only ho (fun b hb e => by rcases e with e | e; · omega
                                        · exact hb.2.2.1 e)).mono (fun b hb => ⟨hb.1, Nat.lt_of_lt_of_le hb.2.1 ho.size, hb.2.2⟩)
theorem Kr2.only {w w' : World} {eb rb B : Nat} {lv : Value} {x y : Xp} (h : Kr2 w eb B lv x y) (ho : Only (fun j => j = rb ∨ j = eb) w w') (hr : rb < B) : Kr2 w' eb B lv x y := by
  obtain ⟨g, cap', k, n, s, o, ma, m, cap, k2, n2, s2, o2, ma2, m2, cap2, rfl, hown, hge, hE, hE2⟩ := h.kid
  have hg : B ≤ g := (own_lt hown rfl).1
  have hs : ∀ b, (B ≤ b ∧ b < w.heap.size ∧ ¬ b = eb ∧ ¬ b = g) → ¬ (b = rb ∨ b = eb) := fun b hb e => by
    rcases e with e | e
    · omega
    · exact hb.2.2.1 e
  refine ⟨g, cap', k, n, s, o, ma, m, cap, k2, n2, s2, o2, ma2, m2, cap2, rfl, own_only hown ho (fun j hj e => ?_), hge, (hE.only ho hs).mono (fun b hb => ⟨hb.1, Nat.lt_of_lt_of_le hb.2.1 ho.size, hb.2.2⟩), (hE2.only ho hs).mono (fun b hb => ⟨hb.1, Nat.lt_of_lt_of_le hb.2.1 ho.size, hb.2.2⟩)⟩
  simp only [Value.ownBlock, Option.some.injEq] at hj
  subst hj
  rcases e with e | e
  · omega
  · exact hge e
theorem kid_of {G : Nat → Prop} {w : World} {g off : Nat} {k n : Int} {s : ByteArray} {o : Int} {ma : Option Addr} {m cap : Nat} {x : Xp} {r : List Xp} (hE : IsE G w (vX k n s o ma m cap) x) (hg : G g) (c0 : w.cell? ⟨g, off, none⟩ = some (.int .u8 k)) (c1 : w.cell? ⟨g, off + 1, none⟩ = some (.int .u64 n))
    (c2 : w.cell? ⟨g, off + 2, none⟩ = some (.string s)) (c3 : w.cell? ⟨g, off + 3, none⟩ = some (.int .u8 o)) (c4 : w.cell? ⟨g, off + 4, none⟩ = some (.slice ma m cap)) (hr : KidsAt G w r (some ⟨g, off + 5, none⟩)) : KidsAt G w (x :: r) (some ⟨g, off, none⟩) := by
  cases hE with
  | mk ho hl hk => exact .cons hg c0 c1 c2 c3 c4 ho hl hk hr
theorem Kr1.kids {w : World} {eb B : Nat} {lv : Value} {x : Xp} (h : Kr1 w eb B lv x) : ∃ g cap', lv = .slice (some ⟨g, 0, none⟩) 1 cap' ∧ KidsAt (fun b => B ≤ b ∧ b < w.heap.size) w [x] (some ⟨g, 0, none⟩) := by
  obtain ⟨g, cap', k, n, s, o, ma, m, cap, rfl, hown, hge, hE⟩ := h.kid
  have hg : B ≤ g ∧ g < w.heap.size := own_lt hown rfl
  refine ⟨g, cap', rfl, kid_of (hE.mono fun b hb => ⟨hb.1, hb.2.1⟩) ⟨hg.1, hg.2⟩ ?_ ?_ ?_ ?_ ?_ .nil⟩
  · exact hown.cellAt 0 (by decide)
  · exact hown.cellAt 1 (by decide)
  · exact hown.cellAt 2 (by decide)
  · exact hown.cellAt 3 (by decide)
  · exact hown.cellAt 4 (by decide)
theorem Kr2.kids {w : World} {eb B : Nat} {lv : Value} {x y : Xp} (h : Kr2 w eb B lv x y) : ∃ g cap', lv = .slice (some ⟨g, 0, none⟩) 2 cap' ∧ KidsAt (fun b => B ≤ b ∧ b < w.heap.size) w [x, y] (some ⟨g, 0, none⟩) := by
  obtain ⟨g, cap', k, n, s, o, ma, m, cap, k2, n2, s2, o2, ma2, m2, cap2, rfl, hown, hge, hE, hE2⟩ := h.kid
  have hg : B ≤ g ∧ g < w.heap.size := own_lt hown rfl
  refine ⟨g, cap', rfl, kid_of (hE.mono fun b hb => ⟨hb.1, hb.2.1⟩) ⟨hg.1, hg.2⟩ ?_ ?_ ?_ ?_ ?_ (kid_of (hE2.mono fun b hb => ⟨hb.1, hb.2.1⟩) ⟨hg.1, hg.2⟩ ?_ ?_ ?_ ?_ ?_ .nil)⟩
  · exact hown.cellAt 0 (by decide)
  · exact hown.cellAt 1 (by decide)
  · exact hown.cellAt 2 (by decide)
  · exact hown.cellAt 3 (by decide)
  · exact hown.cellAt 4 (by decide)
  · exact hown.cellAt 5 (by decide)
  · exact hown.cellAt 6 (by decide)
  · exact hown.cellAt 7 (by decide)
  · exact hown.cellAt 8 (by decide)
  · exact hown.cellAt 9 (by decide)
/-- What a kid leaves that is wrong. -/
def KdE (w : World) (rb eb : Nat) (v : Value) (T : List (Tk × Int)) (B : Nat) (c q : Int) (e : Ending) (w' : World) : Prop :=
  e = .returned (.int .i64 c) ∧ (∃ d', IsRd w' rb v T q d') ∧ Only (fun j => j = rb ∨ j = eb ∨ B ≤ j) w w'
/-- What the first kid leaves. -/
def Kd1 (w : World) (rb eb : Nat) (v : Value) (T : List (Tk × Int)) (B : Nat) (d : Int) (c0 c1 c2 c3 : Value) (x : Xp) (q : Int) (e : Ending) (w' : World) : Prop :=
  e = .returned (.int .i64 0) ∧ IsRd w' rb v T q d ∧ Only (fun j => j = rb ∨ j = eb ∨ B ≤ j) w w' ∧ ∃ lv', Bx w' eb rb (ob v T) c0 c1 c2 c3 lv' ∧ Kr1 w' eb B lv' x
/-- What the second kid leaves. -/
def Kd2 (w : World) (rb eb : Nat) (v : Value) (T : List (Tk × Int)) (B : Nat) (d : Int) (c0 c1 c2 c3 : Value) (x y : Xp) (q : Int) (e : Ending) (w' : World) : Prop :=
  e = .returned (.int .i64 0) ∧ IsRd w' rb v T q d ∧ Only (fun j => j = rb ∨ j = eb ∨ B ≤ j) w w' ∧ ∃ lv', Bx w' eb rb (ob v T) c0 c1 c2 c3 lv' ∧ Kr2 w' eb B lv' x y
theorem kid_er0 {w : World} {rb eb B : Nat} {v : Value} {T : List (Tk × Int)} {p d c q : Int} {c0 c1 c2 c3 : Value} (h : IsRd w rb v T p d) (hI : Calls Tryz.prog 27 #[.pointer (some ⟨rb, 0, none⟩)] w (ExEr w rb v T c q))
    (hx : Bx w eb rb (ob v T) c0 c1 c2 c3 (.slice none 0 0)) (hB : B = w.heap.size) : Calls Tryz.prog 61 #[.pointer (some ⟨rb, 0, none⟩), .pointer (some ⟨eb, 0, none⟩)] w (KdE w rb eb v T B c q) := by
  subst hB
  refine (kid_core0 (p := p) (d := d) (B := w.heap.size) (X := fun k n o s ma m cap c' q' d' w1 => c' = c ∧ q' = q) (hI.mono fun e w1 ⟨he, ⟨d', hR⟩, hO⟩ => ⟨0, 0, 0, ⟨#[]⟩, none, 0, 0, c, q, d', he, hR, hO, rfl, rfl⟩) hx (World.ownsRow_nil _ _ _ _) (by simp [Value.ownBlock]) (Nat.le_refl _) h.lt (fun j hj => h.row.ob_lt hj)).mono ?_
  rintro e w' ⟨k, n, o, s, ma, m, cap, c', q', d', w1, ⟨rfl, rfl⟩, hO1, he, lv', hK⟩
  exact ⟨he, ⟨d', hK.rd⟩, (hO1.mono fun j hj => .inl hj).trans (hK.only.mono fun j hj => hj.elim (fun h => .inr (.inl h)) (fun h => by simp [Value.ownBlock] at h))⟩
theorem kid_ok0 {w : World} {rb eb B : Nat} {v : Value} {T : List (Tk × Int)} {p d q : Int} {x : Xp} {c0 c1 c2 c3 : Value} (h : IsRd w rb v T p d) (hI : Calls Tryz.prog 27 #[.pointer (some ⟨rb, 0, none⟩)] w (ExOk w rb v T d x q))
    (hx : Bx w eb rb (ob v T) c0 c1 c2 c3 (.slice none 0 0)) (hB : B = w.heap.size) : Calls Tryz.prog 61 #[.pointer (some ⟨rb, 0, none⟩), .pointer (some ⟨eb, 0, none⟩)] w (Kd1 w rb eb v T B d c0 c1 c2 c3 x q) := by
  subst hB
  refine (kid_core0 (p := p) (d := d) (B := w.heap.size) (X := fun k n o s ma m cap c' q' d' w1 => c' = 0 ∧ q' = q ∧ d' = d ∧ IsE (fun b => w.heap.size ≤ b ∧ b < w1.heap.size) w1 (vX k n s o ma m cap) x) (hI.mono fun e w1 ⟨k, n, s, o, ma, m, cap, he, hR, hO, hE⟩ => ⟨k, n, o, s, ma, m, cap, 0, q, d, he, hR, hO, rfl, rfl, rfl, hE⟩) hx (World.ownsRow_nil _ _ _ _) (by simp [Value.ownBlock]) (Nat.le_refl _) h.lt (fun j hj => h.row.ob_lt hj)).mono ?_
  rintro e w' ⟨k, n, o, s, ma, m, cap, c', q', d', w1, ⟨rfl, rfl, rfl, hE⟩, hO1, he, lv', hK⟩
  have hel : eb < w.heap.size := hx.row.2.2
  obtain ⟨g, cap', rfl, hg1, hg2⟩ := hK.own.form (by omega)
  have hgw : w1.heap.size ≤ g := (hK.blk g rfl).elim (fun h => by simp [Value.ownBlock] at h) id
  have hsz := hO1.size
  refine ⟨he, hK.rd, (hO1.mono fun j hj => .inl hj).trans (hK.only.mono fun j hj => hj.elim (fun h => .inr (.inl h)) (fun h => by simp [Value.ownBlock] at h)), _, hK.bx, g, cap', k, n, s, o, ma, m, cap, rfl, hK.own, by omega, ?_⟩
  refine (hE.only hK.only (fun b hb e => ?_)).mono (fun b hb => ⟨hb.1, Nat.lt_of_lt_of_le hb.2 hK.only.size, by omega, by omega⟩)
  rcases e with e | e
  · omega
  · simp [Value.ownBlock] at e
theorem kid_er1 {w : World} {rb eb B : Nat} {v : Value} {T : List (Tk × Int)} {p d c q : Int} {x : Xp} {c0 c1 c2 c3 lv : Value} (h : IsRd w rb v T p d) (hI : Calls Tryz.prog 27 #[.pointer (some ⟨rb, 0, none⟩)] w (ExEr w rb v T c q))
    (hx : Bx w eb rb (ob v T) c0 c1 c2 c3 lv) (hk : Kr1 w eb B lv x) (hB : B ≤ w.heap.size) (hrb : rb < B) (hv : ∀ j, ob v T = some j → j < B) : Calls Tryz.prog 61 #[.pointer (some ⟨rb, 0, none⟩), .pointer (some ⟨eb, 0, none⟩)] w (KdE w rb eb v T B c q) := by
  obtain ⟨g, cap', k0, n0, s0, o0, ma0, m0, cap0, rfl, hown, hge, hE0⟩ := hk.kid
  have hg : B ≤ g ∧ g < w.heap.size := own_lt hown rfl
  refine (kid_core1 (p := p) (d := d) (B := B) (X := fun k n o s ma m cap c' q' d' w1 => c' = c ∧ q' = q) (hI.mono fun e w1 ⟨he, ⟨d', hR⟩, hO⟩ => ⟨0, 0, 0, ⟨#[]⟩, none, 0, 0, c, q, d', he, hR, hO, rfl, rfl⟩) hx hown (by simp only [Value.ownBlock, Option.some.injEq]; exact hge) hB hrb hv).mono ?_
  rintro e w' ⟨k, n, o, s, ma, m, cap, c', q', d', w1, ⟨rfl, rfl⟩, hO1, he, lv', hK⟩
  exact ⟨he, ⟨d', hK.rd⟩, (hO1.mono fun j hj => .inl hj).trans (hK.only.mono fun j hj => hj.elim (fun h => .inr (.inl h)) (fun h => by simp only [Value.ownBlock, Option.some.injEq] at h; exact .inr (.inr (by omega))))⟩
theorem kid_ok1 {w : World} {rb eb B : Nat} {v : Value} {T : List (Tk × Int)} {p d q : Int} {x y : Xp} {c0 c1 c2 c3 lv : Value} (h : IsRd w rb v T p d) (hI : Calls Tryz.prog 27 #[.pointer (some ⟨rb, 0, none⟩)] w (ExOk w rb v T d y q))
    (hx : Bx w eb rb (ob v T) c0 c1 c2 c3 lv) (hk : Kr1 w eb B lv x) (hB : B ≤ w.heap.size) (hrb : rb < B) (hv : ∀ j, ob v T = some j → j < B) : Calls Tryz.prog 61 #[.pointer (some ⟨rb, 0, none⟩), .pointer (some ⟨eb, 0, none⟩)] w (Kd2 w rb eb v T B d c0 c1 c2 c3 x y q) := by
  obtain ⟨g0, cap0', k0, n0, s0, o0, ma0, m0, cap0, rfl, hown, hge, hE0⟩ := hk.kid
  have hg0 : B ≤ g0 ∧ g0 < w.heap.size := own_lt hown rfl
  have hel : eb < w.heap.size := hx.row.2.2
  refine (kid_core1 (p := p) (d := d) (B := B) (X := fun k n o s ma m cap c' q' d' w1 => c' = 0 ∧ q' = q ∧ d' = d ∧ IsE (fun b => w.heap.size ≤ b ∧ b < w1.heap.size) w1 (vX k n s o ma m cap) y) (hI.mono fun e w1 ⟨k, n, s, o, ma, m, cap, he, hR, hO, hE⟩ => ⟨k, n, o, s, ma, m, cap, 0, q, d, he, hR, hO, rfl, rfl, rfl, hE⟩) hx hown (by simp only [Value.ownBlock, Option.some.injEq]; exact hge) hB hrb hv).mono ?_
  rintro e w' ⟨k, n, o, s, ma, m, cap, c', q', d', w1, ⟨rfl, rfl, rfl, hE⟩, hO1, he, lv', hK⟩
  obtain ⟨g, cap', rfl, hg1, hg2⟩ := hK.own.form (by omega)
  have hsz := hO1.size
  have hsz2 := hK.only.size
  have hgw : g0 = g ∨ w1.heap.size ≤ g := (hK.blk g rfl).imp (fun h => by simpa [Value.ownBlock] using h) id
  have hge' : ¬ g = eb := fun e => by
    rcases hgw with h1 | h1
    · exact hge (by omega)
    · omega
  refine ⟨he, hK.rd, (hO1.mono fun j hj => .inl hj).trans (hK.only.mono fun j hj => hj.elim (fun h => .inr (.inl h)) (fun h => by simp only [Value.ownBlock, Option.some.injEq] at h; exact .inr (.inr (by omega)))), _, hK.bx, g, cap', k0, n0, s0, o0, ma0, m0, cap0, k, n, s, o, ma, m, cap, rfl, hK.own, hge', ?_, ?_⟩
  · refine ((hE0.only hO1 (fun b hb e => by omega)).only hK.only (fun b hb e => ?_)).mono (fun b hb => ⟨hb.1, by omega, hb.2.2.1, ?_⟩)
    · rcases e with e | e
      · exact hb.2.2.1 e
      · simp only [Value.ownBlock, Option.some.injEq] at e; exact hb.2.2.2 e.symm
    · intro e
      rcases hgw with h1 | h1
      · exact hb.2.2.2 (by omega)
      · omega
  · refine (hE.only hK.only (fun b hb e => ?_)).mono (fun b hb => ⟨by omega, by omega, by omega, ?_⟩)
    · rcases e with e | e
      · omega
      · simp only [Value.ownBlock, Option.some.injEq] at e; omega
    · intro e
      rcases hgw with h1 | h1 <;> omega
end Go.Proofs.YtnblnmehfhkfmaaGreatDoor
