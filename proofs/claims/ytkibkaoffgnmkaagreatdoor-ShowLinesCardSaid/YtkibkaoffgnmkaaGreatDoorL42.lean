/- Plain: how long lines are, and how many there are. -/
import Derived.Test.YtkibkaoffgnmkaaGreatDoorL41
import Derived.Lib.ItoaNum
import Derived.Test.YtkibkaoffgnmkaaGreatDoorL21
namespace Go.Proofs.YtkibkaoffgnmkaaGreatDoor
set_option linter.unusedVariables false
set_option linter.unusedSimpArgs false
set_option maxRecDepth 100000
set_option maxHeartbeats 200000000
section
theorem tkk_len {t : Tk} {m : List UInt8} (h : TkOk t m) : m.length ≤ 20 := by
 rcases h with ⟨_, _, _, h, _⟩ | ⟨_, _, _, h, hn, _⟩ | ⟨_, _, _, h⟩
 ·unfold nameP at h
  by_cases c : 16 < m.length
  ·rw [if_pos c] at h; cases h
  ·omega
 ·rw [← h, Lib.decDigits_length]; exact Lib.nDigits_le20 _ hn
 ·have : ∀ s ∈ signsL, s.length ≤ 20 := by decide
  exact this _ h
theorem ljoin_len : ∀ (l : List (List UInt8)), (∀ x ∈ l, x.length ≤ 20) → (Lib.join l [32]).length ≤ 21 * l.length
 | [], _ => by simp [Lib.join]
 | [x], h => by
  have := h x (by simp)
  simp [Lib.join]
  omega
 | x :: y :: r, h => by
  have h1 := h x (by simp)
  have h2 := ljoin_len (y :: r) (fun z hz => h z (List.mem_cons_of_mem _ hz))
  rw [join_two]
  simp only [List.length_append, List.length_cons] at h2 ⊢
  omega
theorem pcs_le (r : List Tk) : (pcs r).length ≤ r.length := by
 induction r with
 | nil => simp [pcs]
 | cons t r ih =>
  have e : pcs (t :: r) = (if 1 ≤ t.k ∧ t.k ≤ 4 then [t.piece] else []) ++ pcs r := by simp [pcs]
  rw [e, List.length_append, List.length_cons]
  split <;> simp <;> omega
theorem joinT_len {r : List Tk} (h : Toks r) : (joinT r).length ≤ 21 * r.length := by
 have h1 : ∀ x ∈ pcs r, x.length ≤ 20 := by
  intro x hx
  unfold pcs at hx
  obtain ⟨t, ht, hx⟩ := List.mem_flatMap.1 hx
  obtain ⟨m, hm⟩ := h t ht
  rw [if_pos hm.k, List.mem_singleton] at hx
  rw [hx, hm.piece]
  exact tkk_len hm
 have h2 := ljoin_len (pcs r) h1
 have h3 := pcs_le r
 unfold joinT
 omega
theorem e0_len {ex : List Xp} (hex : ∀ e ∈ ex, mayB 40 e = true) (hd : ∀ x ∈ ex, x.nodes ≤ 9000) (h : 1 ≤ ex.length) : (e0T ex).length ≤ 45000 := by
 unfold e0T
 match ex, hex, hd, h with
 | a :: r, hex, hd, _ => exact xp_len (hex a (by simp)) (hd a (by simp))
theorem e1_len {ex : List Xp} (hex : ∀ e ∈ ex, mayB 40 e = true) (hd : ∀ x ∈ ex, x.nodes ≤ 9000) (h : 2 ≤ ex.length) : (e1T ex).length ≤ 45000 := by
 unfold e1T
 match ex, hex, hd, h with
 | a :: c :: r, hex, hd, _ => exact xp_len (hex c (by simp)) (hd c (by simp))
theorem stH_len {k : Nat} {nm fr : List UInt8} {sec mu : Bool} {ex : List Xp} {ar : List (List UInt8)} {bd el : List St} (hf : fitsB (.mk k nm fr sec mu ex ar bd el) = true) (hd : ∀ x ∈ ex, x.nodes ≤ 9000) : (stH k nm fr sec mu ex ar).length ≤ 400000 := by
 obtain ⟨⟨hk0, hk⟩, hM, har, hex⟩ := fits_parts hf
 have hs := sec_len sec
 have hkk : k = 1 ∨ k = 2 ∨ k = 3 ∨ k = 4 ∨ k = 5 ∨ k = 6 ∨ k = 7 ∨ k = 8 ∨ k = 9 ∨ k = 10 ∨ k = 11 ∨ k = 12 := by omega
 have h0 := e0_len hex hd
 have h1 := e1_len hex hd
 rcases hkk with rfl | rfl | rfl | rfl | rfl | rfl | rfl | rfl | rfl | rfl | rfl | rfl
 ·obtain ⟨-, -, -, -, h5, h6, -, -, -⟩ := met_parts (show metB (2, 0, true, false, 1, 1, 0, false, false) nm fr sec mu _ _ _ _ = true from hM)
  have h0 := h0 (by omega)
  simp [stH] <;> omega
 ·obtain ⟨-, -, -, -, h5, h6, -, -, -⟩ := met_parts (show metB (2, 0, false, false, 1, 1, 0, false, false) nm fr sec mu _ _ _ _ = true from hM)
  have h0 := h0 (by omega)
  simp [stH] <;> omega
 ·obtain ⟨-, -, -, -, h5, h6, -, -, -⟩ := met_parts (show metB (2, 0, true, false, 1, 1, 0, false, false) nm fr sec mu _ _ _ _ = true from hM)
  have h0 := h0 (by omega)
  simp [stH] <;> omega
 ·obtain ⟨-, -, -, -, h5, h6, -, -, -⟩ := met_parts (show metB (2, 0, false, false, 2, 2, 0, false, false) nm fr sec mu _ _ _ _ = true from hM)
  have h0 := h0 (by omega)
  have h1 := h1 (by omega)
  simp [stH] <;> omega
 ·obtain ⟨-, -, -, -, h5, h6, -, -, -⟩ := met_parts (show metB (0, 0, false, false, 1, 1, 0, true, true) nm fr sec mu _ _ _ _ = true from hM)
  have h0 := h0 (by omega)
  simp [stH] <;> omega
 ·obtain ⟨-, -, -, -, h5, h6, -, -, -⟩ := met_parts (show metB (0, 0, false, false, 1, 1, 0, true, false) nm fr sec mu _ _ _ _ = true from hM)
  have h0 := h0 (by omega)
  simp [stH] <;> omega
 ·obtain ⟨-, -, -, -, h5, h6, -, -, -⟩ := met_parts (show metB (2, 0, false, false, 1, 1, 0, true, false) nm fr sec mu _ _ _ _ = true from hM)
  have h0 := h0 (by omega)
  simp [stH] <;> omega
 ·obtain ⟨-, -, -, -, h5, h6, -, -, -⟩ := met_parts (show metB (2, 2, false, true, 2, 2, 0, true, false) nm fr sec mu _ _ _ _ = true from hM)
  have h0 := h0 (by omega)
  have h1 := h1 (by omega)
  simp [stH] <;> omega
 ·obtain ⟨-, -, -, -, h5, h6, -, -, -⟩ := met_parts (show metB (2, 2, false, false, 0, 0, 0, false, false) nm fr sec mu _ _ _ _ = true from hM)
  simp [stH] <;> omega
 ·obtain ⟨-, -, -, -, h5, h6, -, -, -⟩ := met_parts (show metB (2, 0, false, false, 1, 1, 0, false, false) nm fr sec mu _ _ _ _ = true from hM)
  have h0 := h0 (by omega)
  simp [stH] <;> omega
 ·obtain ⟨h1, h2, h3, h4, h5, h6, h7, h8, h9⟩ := met_parts (show metB (1, 2, false, false, 0, 8, 8, false, false) nm fr sec mu _ _ _ _ = true from hM)
  have hlx : ex.length ≤ 8 := by omega
  have hla : ar.length ≤ 8 := by omega
  have hc1 := com_len xpT 45000 ex (fun y hy => xp_len (hex y hy) (hd y hy))
  have hc2 := com_len (fun s => [nmT s]) 1 ar (fun y hy => by simp)
  have e1 : ex.length * (45000 + 1) ≤ 8 * 45001 := Nat.mul_le_mul hlx (Nat.le_refl _)
  have e2 : ar.length * (1 + 1) ≤ 8 * 2 := Nat.mul_le_mul hla (Nat.le_refl _)
  have e3 : (if nm = [] then ([] : List Tk) else [nmT nm, sg [61]]).length ≤ 2 := by split <;> simp
  rw [show stH 11 nm fr sec mu ex ar = wdT wCall :: ((if nm = [] then [] else [nmT nm, sg [61]]) ++ nmT fr :: sg [40] :: (comT xpT ex ++ sg [59] :: (comT (fun s => [nmT s]) ar ++ [sg [41], sg [59]]))) from rfl]
  simp only [List.length_cons, List.length_append, List.length_nil]
  omega
 ·obtain ⟨-, -, -, -, h5, h6, -, -, -⟩ := met_parts (show metB (0, 0, false, false, 0, 0, 0, false, false) nm fr sec mu _ _ _ _ = true from hM)
  simp [stH] <;> omega
def LnB (d : Nat) (L : List (Nat × List Tk)) : Prop := ∀ x ∈ L, x.1 ≤ d ∧ x.2.length ≤ 400000
theorem LnB.app {d : Nat} {a b : List (Nat × List Tk)} (h : LnB d a) (k : LnB d b) : LnB d (a ++ b) := fun x hx => (List.mem_append.1 hx).elim (h x) (k x)
theorem LnB.cons {d : Nat} {y : Nat × List Tk} {b : List (Nat × List Tk)} (h : y.1 ≤ d) (h2 : y.2.length ≤ 400000) (k : LnB d b) : LnB d (y :: b) := fun x hx => by
 rcases List.mem_cons.1 hx with rfl | hx
 ·exact ⟨h, h2⟩
 ·exact k x hx
theorem LnB.nil {d : Nat} : LnB d [] := fun x hx => by simp at hx
theorem blk_lines : ∀ (d : Nat) (ls : List St) (n m dp : Nat), blkC d ls n = some m → ndS ls → LnB (dp + d) (stsL dp ls) ∧ (stsL dp ls).length + 3 * m ≤ 3 * n := by
 intro d
 induction d with
 | zero =>
  intro ls n m dp h hd
  cases ls with
  | nil => simp only [blkC, Option.some.injEq] at h; subst h; exact ⟨by rw [stsL]; exact LnB.nil, by simp [stsL]⟩
  | cons s r => simp [blkC] at h
 | succ d ih =>
  intro ls
  induction ls with
  | nil => intro n m dp h hd; simp only [blkC_succ, rowC, Option.some.injEq] at h; subst h; exact ⟨by rw [stsL]; exact LnB.nil, by simp [stsL]⟩
  | cons s r ihr =>
   intro n m dp h hd
   rw [blkC_succ, rowC] at h
   obtain ⟨y, h1, h2⟩ := bind_parts h
   rw [← blkC_succ] at h2
   rw [ndS] at hd
   obtain ⟨h3, h4⟩ := ihr y m dp h2 hd.2
   obtain ⟨k, nm, fr, sec, mu, ex, ar, bd, el⟩ := s
   unfold oneC at h1
   by_cases c : n = 0 ∨ fitsB (.mk k nm fr sec mu ex ar bd el) = false
   ·rw [if_pos c] at h1; cases h1
   rw [if_neg c] at h1
   simp only [not_or, Bool.not_eq_false] at c
   obtain ⟨z, h5, h6⟩ := bind_parts h1
   simp only [St.bd, St.el] at h5 h6
   have hds := hd.1
   rw [St.nd] at hds
   obtain ⟨a1, a2⟩ := ih bd _ _ (dp + 1) h5 hds.2.1
   obtain ⟨b1, b2⟩ := ih el _ _ (dp + 1) h6 hds.2.2
   have hst := stH_len c.2 hds.1
   have e1 : dp + 1 + d = dp + (d + 1) := by omega
   rw [e1] at a1 b1
   have hlt := c.1
   rw [stsL, stL]
   by_cases c5 : 5 ≤ k ∧ k ≤ 8
   ·rw [if_pos c5]
    by_cases c6 : el.isEmpty = true
    ·rw [if_pos c6]
     refine ⟨LnB.app (LnB.cons (by simp <;> omega) hst (LnB.app a1 (LnB.app LnB.nil (LnB.cons (by simp <;> omega) (by simp) LnB.nil)))) h3, ?_⟩
     simp only [List.length_append, List.length_cons, List.length_nil]
     omega
    ·rw [if_neg c6]
     refine ⟨LnB.app (LnB.cons (by simp <;> omega) hst (LnB.app a1 (LnB.app (LnB.cons (by simp <;> omega) (by simp) b1) (LnB.cons (by simp <;> omega) (by simp) LnB.nil)))) h3, ?_⟩
     simp only [List.length_append, List.length_cons, List.length_nil]
     omega
   ·rw [if_neg c5]
    refine ⟨LnB.app (LnB.cons (by simp <;> omega) hst LnB.nil) h3, ?_⟩
    simp only [List.length_append, List.length_cons, List.length_nil]
    omega
def Fd.nd (f : Fd) : Prop := ndS f.bd ∧ ∀ x ∈ f.rt, x.nodes ≤ 9000
theorem fd_parts {f : Fd} {a b : Nat} (h : fdC f a = some b) (hd : f.nd) (ha : a ≤ 400) : f.sh ∧ b ≤ a ∧ LnB 41 (fdL f) ∧ (fdL f).length + 3 * b ≤ 3 * a + 2 := by
 obtain ⟨nm, ps, bd, sec, rt⟩ := f
 change (if (nmdB nm && psB ps && rtB sec rt) = true then blkC 40 bd a else none) = some b at h
 have c : (nmdB nm && psB ps && rtB sec rt) = true := Classical.byContradiction (fun c => by rw [if_neg c] at h; cases h)
 rw [if_pos c] at h
 simp only [Bool.and_eq_true] at c
 obtain ⟨⟨c1, c2⟩, c3⟩ := c
 obtain ⟨h1, h2⟩ := blk_lines 40 bd a b 1 h hd.1
 have hps : ps.length ≤ 8 := by unfold psB at c2; rw [Bool.and_eq_true] at c2; exact of_decide_eq_true c2.1
 have hcl := com_len pmT 3 ps (fun x _ => pm_len x)
 have hcl2 : ps.length * (3 + 1) ≤ 8 * 4 := Nat.mul_le_mul hps (Nat.le_refl _)
 have hle : b ≤ a := by omega
 have htl : (tlT ⟨nm, ps, bd, sec, rt⟩).length ≤ 400000 := by
  have hs := sec_len sec
  have h0 : rt.isEmpty = false → (e0T rt).length ≤ 45000 := by
   intro hne
   unfold rtB at c3
   cases rt with
   | nil => cases hne
   | cons e r =>
    rw [if_neg (by simp)] at c3
    simp only [Bool.and_eq_true, decide_eq_true_eq, List.all_eq_true, List.length_cons] at c3
    exact e0_len c3.2 hd.2 (by simp)
  unfold tlT
  simp only [List.length_cons, List.length_append]
  split
  ·simp
  ·rename_i hne
   have h0 := h0 (by simpa using hne)
   simp
   omega
 refine ⟨⟨c2, c3, blkC_fa _ _ _ _ h, hd.1, hd.2, by show (stsL 1 bd).length ≤ 900000; omega⟩, hle, ?_, ?_⟩
 ·refine LnB.cons (by simp) ?_ (LnB.app h1 (LnB.cons (by simp) htl LnB.nil))
  simp [hdT]
  omega
 ·simp [fdL]
  omega
theorem pg_lines : ∀ (l : List Fd) (a b : Nat), pgC l a = some b → a ≤ 400 → (∀ f ∈ l, f.nd) → (∀ f ∈ l, f.sh) ∧ LnB 41 (pgL l) ∧ (pgL l).length + 3 * b ≤ 3 * a + 2 * l.length
 | [], a, b, h, _, _ => by
  simp only [pgC, Option.some.injEq] at h
  subst h
  exact ⟨fun f hf => by simp at hf, LnB.nil, by simp [pgL]⟩
 | f :: r, a, b, h, ha, hd => by
  rw [pgC] at h
  obtain ⟨y, h1, h2⟩ := bind_parts h
  obtain ⟨p1, p2, p3, p4⟩ := fd_parts h1 (hd f (by simp)) ha
  obtain ⟨q1, q2, q3⟩ := pg_lines r y b h2 (by omega) (fun g hg => hd g (List.mem_cons_of_mem _ hg))
  refine ⟨fun g hg => (List.mem_cons.1 hg).elim (fun e => e ▸ p1) (q1 g), LnB.app p3 q2, ?_⟩
  rw [show pgL (f :: r) = fdL f ++ pgL r from rfl, List.length_append, List.length_cons]
  omega
theorem lns_len : ∀ (L : List (Nat × List Tk)), (∀ x ∈ L, x.1 ≤ 41 ∧ x.2.length ≤ 400000 ∧ Toks x.2) → (lnsT L).length ≤ 9000000 * L.length
 | [], _ => by simp [lnsT]
 | x :: r, h => by
  have h1 := h x (by simp)
  have h2 := lns_len r (fun y hy => h y (List.mem_cons_of_mem _ hy))
  have h3 := joinT_len h1.2.2
  rw [show lnsT (x :: r) = lnT x.1 x.2 ++ lnsT r from rfl, List.length_append, List.length_cons]
  have e : (lnT x.1 x.2).length = 2 * x.1 + ((joinT x.2).length + 1) := by simp [lnT]
  omega
theorem pg_all (l : List Fd) (h : pgB l = true) (hd : ∀ f ∈ l, f.nd) (hb : ∀ f ∈ l, f.nb) : (∀ f ∈ l, f.sh) ∧ (∀ x ∈ pgL l, x.1 ≤ 41 ∧ x.2.length ≤ 400000 ∧ Toks x.2) ∧ (pgL l).length ≤ 1300 := by
 unfold pgB at h
 rw [Bool.and_eq_true] at h
 have h16 := of_decide_eq_true h.1
 obtain ⟨b, hb'⟩ := Option.isSome_iff_exists.1 h.2
 obtain ⟨q1, q2, q3⟩ := pg_lines l 400 b hb' (Nat.le_refl _) hd
 have q4 := pgL_toks l 400 b hb' hb
 exact ⟨q1, fun x hx => ⟨(q2 x hx).1, (q2 x hx).2, q4 x hx⟩, by omega⟩
end
section
open Go Go.ChangeShapes Go.WideShapes Go.ChangeAt Go.RowKit
def LgQ (w : World) (l : List Fd) (r : Ending) (w' : World) : Prop := (∃ b, r = .returned (.bool b) ∧ (b = false → l.length ≤ 30 ∧ totS l ≤ 900 ∧ ∀ f ∈ l, f.nd)) ∧ Below w.heap.size w w'
theorem lgq_true {w w' : World} {l : List Fd} (hB : Below w.heap.size w w') : LgQ w l (.returned (.bool true)) w' := ⟨⟨_, rfl, fun h => by cases h⟩, hB⟩
theorem lgq_false {w w' : World} {l : List Fd} (h1 : l.length ≤ 30) (h2 : totS l ≤ 900) (h3 : ∀ f ∈ l, f.nd) (hB : Below w.heap.size w w') : LgQ w l (.returned (.bool false)) w' := ⟨⟨_, rfl, fun _ => ⟨h1, h2, h3⟩⟩, hB⟩
theorem ndS_app {a b : List St} : ndS (a ++ b) ↔ ndS a ∧ ndS b := by
 rw [ndS_iff, ndS_iff, ndS_iff]
 exact ⟨fun h => ⟨fun x hx => h x (List.mem_append_left _ hx), fun x hx => h x (List.mem_append_right _ hx)⟩, fun h x hx => (List.mem_append.1 hx).elim (h.1 x) (h.2 x)⟩
theorem bfs_nd {j : Nat} {L Lb Le : List Sx} (hj : j < L.length) (hb : Lb.map (·.x) = (L[j]).x.bd) (he : Le.map (·.x) = (L[j]).x.el) (hx : ∀ x ∈ (L[j]).x.ex, x.nodes ≤ 9000) (h : ndS ((((L ++ Lb) ++ Le).drop (j + 1)).map (·.x))) : ndS ((L.drop j).map (·.x)) := by
 rw [List.append_assoc, List.drop_append_of_le_length (by omega), List.map_append, List.map_append, ndS_app, ndS_app, hb, he] at h
 rw [List.drop_eq_getElem_cons hj, List.map_cons, ndS]
 refine ⟨?_, h.1⟩
 revert hx h
 generalize (L[j]).x = s
 intro hx h
 obtain ⟨k, nm, fr, sec, mu, ex, ar, bd, el⟩ := s
 rw [St.nd]
 exact ⟨hx, h.2⟩
theorem nd_step {l : List Fd} {k : Nat} (hk : k < l.length) {L Lb : List Sx} (hb : Lb.map (·.x) = (l[k]).bd) (h : ndS (L.map (·.x)) → ∀ f ∈ l.take k, ndS f.bd) : ndS ((L ++ Lb).map (·.x)) → ∀ f ∈ l.take (k + 1), ndS f.bd := fun h1 f hf => by
 rw [List.map_append, ndS_app, hb] at h1
 rw [List.take_succ_eq_append_getElem hk] at hf
 rcases List.mem_append.1 hf with hf | hf
 ·exact h h1.1 f hf
 ·rw [List.mem_singleton.1 hf]; exact h1.2
theorem rt_step {l : List Fd} {k : Nat} (hk : k < l.length) (h : ∀ f ∈ l.take k, ∀ x ∈ f.rt, x.nodes ≤ 9000) (h2 : ∀ i (hi : i < (l[k]).rt.length), ((l[k]).rt[i]).nodes ≤ 9000) : ∀ f ∈ l.take (k + 1), ∀ x ∈ f.rt, x.nodes ≤ 9000 := fun f hf x hx => by
 rw [List.take_succ_eq_append_getElem hk] at hf
 rcases List.mem_append.1 hf with hf | hf
 ·exact h f hf x hx
 ·rw [List.mem_singleton.1 hf] at hx
  obtain ⟨i, hi, rfl⟩ := List.getElem_of_mem hx
  exact h2 i hi
theorem nd_next {l : List Xp} {k : Nat} {hk : k < l.length} (h : ∀ i (hi : i < l.length), i < k → (l[i]).nodes ≤ 9000) (h2 : (l[k]).nodes ≤ 2000) : ∀ i (hi : i < l.length), i < k + 1 → (l[i]).nodes ≤ 9000 := fun i hi hk1 => by
 by_cases c : i < k
 ·exact h i hi c
 ·obtain rfl : i = k := by omega
  exact Nat.le_trans h2 (by decide)
end
end Go.Proofs.YtkibkaoffgnmkaaGreatDoor
