/- Plain: a text with more blanks ahead of its tokens has the same tokens, but for their places. -/
import Derived.Test.YtfbjljcmmbdhkaaGreatDoorD00
namespace Go.Proofs.YtfbjljcmmbdhkaaGreatDoor
set_option linter.unusedVariables false
set_option linter.unusedSimpArgs false
set_option maxRecDepth 100000
set_option maxHeartbeats 200000000
def ins (bk : Nat → List UInt8) (l : List UInt8) (i : Nat) (ps : List Nat) (k : Nat) : List UInt8 :=
 match l, ps with
 | [], _ => []
 | c :: s, [] => c :: ins bk s (i + 1) [] k
 | c :: s, p :: ps => if p = i then bk k ++ ins bk (c :: s) i ps (k + 1) else c :: ins bk s (i + 1) (p :: ps) k
termination_by l.length + ps.length
def ats (T : List (Tk × Nat)) : List Nat := T.map (·.2)
theorem lex_count (f : Nat) : ∀ (l : List UInt8) (a : Nat) (T : List (Tk × Nat)), lexN f l a = .ok T → T.length ≤ l.length + 1 := by
 induction f with
 | zero => intro l a T h; cases h
 | succ f ih =>
  intro l a T h
  obtain ⟨f', hf, h | ⟨b, t, m, r, T', hl, hb, hok, hs, hx, rfl⟩⟩ := yJx h
  ·rw [h.2]; simp
  ·cases hf
   have := ih _ _ _ hx
   have hm1 : 0 < m.length := List.length_pos_iff.2 hok.ne
   rw [hl]
   simp only [List.length_cons, List.length_append]
   omega
end Go.Proofs.YtfbjljcmmbdhkaaGreatDoor
