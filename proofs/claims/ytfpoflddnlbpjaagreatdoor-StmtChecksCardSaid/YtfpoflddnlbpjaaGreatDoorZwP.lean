/- Plain: what is cut, and where a text is none. -/
import Derived.Test.YtfpoflddnlbpjaaGreatDoorZjP
import Derived.Test.YtfpoflddnlbpjaaGreatDoorZkP
import Derived.Test.YtfpoflddnlbpjaaGreatDoorZeP
import Derived.Test.YtfpoflddnlbpjaaGreatDoorZuP
namespace Go.Proofs.YtfpoflddnlbpjaaGreatDoor
set_option linter.unusedVariables false
theorem tk_nmd {t : Tk} {m : List UInt8} (h : TkOk t m) (hk : t.k = 1) : nmdB t.t = true := by
  have h0 := h
  rcases h with ⟨-, ht, hn, hp, -, -⟩ | ⟨h3, -⟩ | ⟨h4, -⟩
  · have hl : m.length ≤ 16 := by
      unfold nameP at hp
      by_cases hh : 16 < m.length
      · rw [if_pos hh] at hp; cases hp
      · omega
    obtain ⟨k, hk1⟩ : ∃ k, m.length = k + 1 := by
      have := h0.ne
      cases m with
      | nil => exact absurd rfl this
      | cons c r => exact ⟨r.length, rfl⟩
    have h1 := lex_tok m.length [] (by simp) h0 [] (by simp) 0
    have h2 := lex_end k [] (by simp) (0 + ([] : List UInt8).length + m.length)
    rw [hk1] at h1
    rw [hk1] at h2
    rw [h2] at h1
    simp only [List.nil_append, List.append_nil] at h1
    unfold nmdB lexT
    rw [ht, if_neg (by omega), hk1, h1]
    simp [Lx.pre, hk, ht]
  · omega
  · omega
theorem lex_facts : ∀ (f : Nat) (l : List UInt8) (a : Nat) (T : List (Tk × Nat)), lexN f l a = .ok T →
    T.length ≤ l.length + 1 ∧ T[T.length - 1]? = some (⟨5, [], 0⟩, a + l.length) ∧ (∀ x ∈ T, x.2 ≤ a + l.length) ∧ Good (bare T) := by
  intro f
  induction f with
  | zero => intro l a T h; cases h
  | succ f ih =>
    intro l a T h
    obtain ⟨f', hf, ⟨_, rfl⟩ | ⟨b, t, m, r, T', rfl, _, hm, _, hT, rfl⟩⟩ := lex_inv h
    · refine ⟨by simp, by simp, by simp, ?_⟩
      intro t ht hk
      simp [bare] at ht
      subst ht
      cases hk
    · cases hf
      obtain ⟨i1, i2, i3, i4⟩ := ih _ _ _ hT
      have hne := lex_ne hT
      have hml : 0 < m.length := List.length_pos_iff.2 hm.ne
      have hTl : 0 < T'.length := List.length_pos_iff.2 hne
      refine ⟨by simp; omega, ?_, ?_, ?_⟩
      · rw [List.length_cons, Nat.add_sub_cancel, ← Nat.sub_add_cancel hTl, List.getElem?_cons_succ, i2]
        simp [Nat.add_assoc]
      · intro x hx
        rcases List.mem_cons.1 hx with rfl | hx
        · simp
        · have := i3 x hx; simp; omega
      · intro u hu hk
        rcases List.mem_cons.1 hu with rfl | hu
        · exact tk_nmd hm hk
        · exact i4 u hu hk
theorem lexT_good {l : List UInt8} {T : List (Tk × Nat)} (h : lexT l = .ok T) : T.length ≤ 16385 ∧ 0 < T.length ∧ T[T.length - 1]? = some (⟨5, [], 0⟩, l.length) ∧ (∀ x ∈ T, x.2 ≤ l.length) ∧ Good (bare T) := by
  unfold lexT at h
  split at h
  · cases h
  · have := lex_facts _ _ _ _ h
    have hn := lex_ne h
    refine ⟨by omega, List.length_pos_iff.2 hn, by simpa using this.2.1, by simpa using this.2.2.1, this.2.2.2⟩
def Ec {α : Type} : Rz α → Prop
  | .er e _ => e = 5 ∨ e = 7 ∨ e = 70
  | .ok _ _ _ => True
theorem Ec.next {α β : Type} {r : Rz α} {f : α → Nat → Nat → Rz β} (h : Ec r) (hf : ∀ x p n, Ec (f x p n)) : Ec (r.next f) := by
  cases r with
  | er e p => exact h
  | ok x p n => exact hf x p n
theorem par_good {l : List UInt8} {x : List Fd} (h : parB l = .ok x) : pgB x = true := by
  unfold parB at h
  cases hl : lexT l with
  | er e1 a1 => simp only [hl] at h; cases h
  | ok T =>
    simp only [hl] at h
    split at h
    · cases h
    · rename_i y q n hp
      cases h
      exact pro_may (lexT_good hl).2.2.2.2 hp
end Go.Proofs.YtfpoflddnlbpjaaGreatDoor

/- Plain: closed texts cut and read by computation; those that layer 8 asks ahead of all else. -/
namespace Go.Proofs.YtfpoflddnlbpjaaGreatDoor
set_option linter.unusedVariables false
def decF : Nat → Nat → List UInt8
  | 0, _ => []
  | f + 1, u => if u < 10 then [UInt8.ofNat (48 + u)] else decF f (u / 10) ++ [UInt8.ofNat (48 + u % 10)]
theorem decF_eq : ∀ (f u : Nat), u < 10 ^ f → 0 < f → decF f u = Lib.decDigits u := by
  intro f
  induction f with
  | zero => intro u _ h; omega
  | succ f ih =>
    intro u hu _
    rw [decF, Lib.decDigits]
    by_cases h : u < 10
    · rw [if_pos h, dif_pos h]
    · rw [if_neg h, dif_neg h]
      cases f with
      | zero => simp at hu; omega
      | succ f =>
        rw [ih (u / 10) (by rw [Nat.pow_succ] at hu; omega) (by omega)]
def numC (p : List UInt8) : Rd := match Lib.parseUintB 64 p with
  | .ok u => if u < 100000 then (if decF 5 u = p then .ok ⟨3, [], u⟩ p else .er 7) else (if Lib.decDigits u = p then .ok ⟨3, [], u⟩ p else .er 7)
  | _ => .er 7
theorem numC_eq (p : List UInt8) : numC p = numP p := by
  unfold numC numP
  split
  · rename_i u h
    by_cases hu : u < 100000
    · rw [if_pos hu, decF_eq 5 u (by omega) (by omega)]; simp only [h]
    · rw [if_neg hu]; simp only [h]
  · rename_i h
    split
    · rename_i u h2; exact absurd h2 (h u)
    · rfl
def tokC : List UInt8 → Rd
  | [] => .er 7
  | c :: r => if isL c then nameP ((c :: r).takeWhile isLD) else if isD c then numC ((c :: r).takeWhile isD) else signP (ls (c :: r))
theorem tokC_eq : ∀ l, tokC l = tok l := by
  intro l
  cases l with
  | nil => rfl
  | cons c r => rw [tokC, tok, numC_eq]
def lexNC : Nat → List UInt8 → Nat → Lx
  | 0, _, a => .er 0 a
  | f + 1, l, a =>
    if l.drop (bl l) = [] then .ok [(⟨5, [], 0⟩, a + bl l)]
    else match tokC (l.drop (bl l)) with
      | .er e => .er e (a + bl l)
      | .ok t m => (lexNC f ((l.drop (bl l)).drop m.length) (a + bl l + m.length)).pre (t, a + bl l)
theorem lexNC_eq : ∀ (f : Nat) (l : List UInt8) (a : Nat), lexNC f l a = lexN f l a := by
  intro f
  induction f with
  | zero => intro l a; rfl
  | succ f ih =>
    intro l a
    rw [lexNC, lexN, tokC_eq]
    split
    · rfl
    · split
      · rename_i e h; simp only [h]
      · rename_i t m h; simp only [h]; rw [ih]
def lexC (l : List UInt8) : Lx := if 16384 < l.length then .er 5 0 else lexNC (l.length + 1) l 0
theorem lexC_eq (l : List UInt8) : lexC l = lexT l := by unfold lexC lexT; rw [lexNC_eq]
def parC (s : List UInt8) : Pz := match lexC s with
  | .er e a => .er e a
  | .ok T => match proR (T.map (·.1)) with
    | .er e p => .er e (T.getD (min p (T.length - 1)) (t0, 0)).2
    | .ok l _ _ => .ok l
theorem parC_eq (s : List UInt8) : parC s = parB s := by
  unfold parC parB
  rw [lexC_eq]
  cases lexT s with
  | er e a => rfl
  | ok T => rfl
def aT1 : List UInt8 := [102, 110, 32, 109, 97, 105, 110, 40, 110, 117, 109, 32, 110, 44, 32, 118, 105, 101, 119, 32, 115, 101, 99, 114, 101, 116, 32, 107, 41, 32, 123, 32, 108, 101, 116, 32, 120, 32, 61, 32, 35, 107, 59, 32, 119, 104, 105, 108, 101, 32, 40, 120, 32, 60, 32, 110, 41, 32, 123, 32, 120, 32, 61, 32, 40, 120, 32, 43, 32, 49, 41, 59, 32, 125, 32, 125, 32, 61, 32, 120, 59]
def aT2 : List UInt8 := [102, 110, 32, 102, 40, 41, 32, 123, 32, 120, 32, 61, 32, 59, 32, 125, 59]
def aX : Xp := .mk 2 0 [120] 0 []
def aF : Fd := ⟨[109, 97, 105, 110], [⟨[110], false, false, false⟩, ⟨[107], true, true, false⟩], [.mk 1 [120] [] false false [.mk 4 0 [107] 0 []] [] [] [], .mk 6 [] [] false false [.mk 3 0 [] 5 [aX, .mk 2 0 [110] 0 []]] [] [.mk 2 [120] [] false false [.mk 3 0 [] 1 [aX, .mk 1 1 [] 0 []]] [] [] []] []], false, [aX]⟩
theorem al1 : parB aT1 = .ok [aF] := by rw [← parC_eq]; kernel_rfl
theorem al2 : parB aT2 = .er 7 13 := by rw [← parC_eq]; kernel_rfl
theorem al3 : parB [] = .ok [] := by rw [← parC_eq]; kernel_rfl
theorem alM : pgB [aF] = true := par_good al1
end Go.Proofs.YtfpoflddnlbpjaaGreatDoor

/- Contract of Parse. -/
namespace Go.Proofs.YtfpoflddnlbpjaaGreatDoor
open Go.ChangeShapes Go.WideShapes Go.ChangeAt Go.RowKit
set_option linter.unusedVariables false
def PaP (w : World) (r : Pz) (e : Ending) (w' : World) : Prop := Below w.heap.size w w' ∧ match r with
  | .er c a => e = .returned (.tuple #[.agg #[.slice none 0 0], .iface 36 (.agg #[.int .i64 (a : Int), .int .i64 (c : Int)])])
  | .ok l => ∃ ma cap, e = .returned (.tuple #[.agg #[.slice ma l.length cap], .nilIface]) ∧ l.length ≤ 16 ∧ FdsAt (fun b => w.heap.size ≤ b ∧ b < w'.heap.size) w' l ma
def zT (T : List (Tk × Nat)) : List (Tk × Int) := T.map fun x => (x.1, (x.2 : Int))
theorem bare_zT (T : List (Tk × Nat)) : bareZ (zT T) = T.map (·.1) := by simp [bareZ, zT]
theorem place_zT (T : List (Tk × Nat)) (q : Nat) (hT : 0 < T.length) : placeZ (zT T) (q : Int) = ((T.getD (min q (T.length - 1)) (t0, 0)).2 : Int) := by
  unfold placeZ
  rw [if_neg (by omega)]
  have hl : (zT T).length = T.length := by simp [zT]
  rw [hl, Int.toNat_natCast]
  have hlt : min q (T.length - 1) < T.length := by omega
  rw [List.getD_eq_getElem?_getD, List.getD_eq_getElem?_getD, List.getElem?_eq_getElem hlt, List.getElem?_eq_getElem (by rw [hl]; exact hlt)]
  simp [zT]
def pzOf (T : List (Tk × Nat)) : Rz (List Fd) → Pz
  | .er e p => .er e (T.getD (min p (T.length - 1)) (t0, 0)).2
  | .ok l _ _ => .ok l
theorem parB_ok {l : List UInt8} {T : List (Tk × Nat)} (h : lexT l = .ok T) : parB l = pzOf T (proR (T.map (·.1))) := by
  unfold parB
  simp only [h]
  cases proR (T.map (·.1)) <;> rfl
theorem rdp_of {w w1 : World} {T : List (Tk × Nat)} {e : Ending} {w' : World} (hT : 0 < T.length) (hb : Below w.heap.size w w1) (h : RdPg w1 (zT T) (proR (bareZ (zT T))) e w') :
    PaP w (pzOf T (proR (T.map (·.1)))) e w' := by
  rw [bare_zT] at h
  obtain ⟨h1, h2⟩ := h
  refine ⟨hb.trans (h1.mono hb.size), ?_⟩
  cases hr : proR (T.map (·.1)) with
  | er c q =>
    rw [hr] at h2
    simp only [pzOf] at h2 ⊢
    rw [h2, place_zT T q hT]
  | ok l q m =>
    rw [hr] at h2
    simp only [pzOf] at h2 ⊢
    obtain ⟨ma, cap, h3, h4, h5⟩ := h2
    exact ⟨ma, cap, h3, h4, h5.mono fun b h => ⟨Nat.le_trans hb.size h.1, h.2⟩⟩
theorem rdp_new {w1 : World} {T : List (Tk × Nat)} {v : Value} (h1 : T.length ≤ 16385) (h2 : 0 < T.length) {a : Nat} (h3 : T[T.length - 1]? = some (⟨5, [], 0⟩, a)) (hv : RowAt w1 v T) (hT : Tb w1) :
    Calls Tryz.prog 32 #[v] w1 (PaP w1 (pzOf T (proR (T.map (·.1))))) := by
  have hlz : (zT T).length = T.length := by simp [zT]
  have hg : RowZ w1 v (zT T) := rowAt_Z hv
  refine (rdg_any hg (by rw [hlz]; exact h1) (by rw [hlz]; exact h2) ⟨a, ?_⟩ hT).mono fun e w' h => rdp_of h2 (Below.refl _ _) h
  rw [hlz]
  unfold zT
  rw [List.getElem?_map, h3]
  rfl
theorem PaP.form {w w' : World} {r : Pz} {e : Ending} (h : PaP w r e w') : ∃ ma n cap y, e = .returned (.tuple #[.agg #[.slice ma n cap], y]) := by
  cases r with
  | er c a => exact ⟨_, _, _, _, h.2⟩
  | ok l => obtain ⟨ma, cap, h3, -⟩ := h.2; exact ⟨_, _, _, _, h3⟩
theorem PaP.up {w w1 w' : World} {r : Pz} {e : Ending} (h : PaP w1 r e w') (hb : Below w.heap.size w w1) (hk : w.heap.size < w1.heap.size) (u : Value) : PaP w r e (w'.setCell ⟨w.heap.size, 0, none⟩ u) := by
  obtain ⟨h1, h2⟩ := h
  refine ⟨(hb.trans (h1.mono hb.size)).setCell (Nat.le_refl _) u, ?_⟩
  cases r with
  | er c a => exact h2
  | ok l =>
    obtain ⟨ma, cap, h3, h4, h5⟩ := h2
    refine ⟨ma, cap, h3, h4, ?_⟩
    refine (h5.only (S := fun j => j = w.heap.size) (os1 (or1 _ _) _ _) (fun b hb e => by omega)).mono (fun b hb => ⟨by omega, by rw [World.size_setCell]; exact hb.2⟩)
set_option maxRecDepth 100000 in
theorem parse_any (s : ByteArray) {w : World} (hT : Tb w) : Calls Tryz.prog 16 #[.string s] w (PaP w (parB s.data.toList)) := by
  obtain ⟨W, hW⟩ : ∃ W, w.alloc (.cells #[.slice none 0 0] 24) = W := ⟨_, rfl⟩
  have hBW : Below w.heap.size w W := by rw [← hW]; exact aB (Below.refl _ _) _
  have hsW : W.heap.size = w.heap.size + 1 := by rw [← hW]; simp
  have hrP : rowG #[.slice none 0 0] W w.heap.size := by rw [← hW]; exact rowG_at _ _ _ _ rfl
  have hTW := hT.of hBW
  cases hl : lexT s.data.toList with
  | er e a =>
    have hpe : parB s.data.toList = .er e a := by unfold parB; rw [hl]
    rw [hpe]
    have hC := cut_er s e a W hTW hl
    go_enter Tryz.func16, Tryz.ntmps16
    go_wp2_with (go_at_call 31; ((with_reducible refine hC.mono ?_); (rintro e w1 ⟨rfl, hb⟩); (have hP1 := rowG_b hrP hb); (have cP : w1.cell? ⟨w.heap.size, 0, none⟩ = some (.slice none 0 0) := hP1.1 0 (by simp)); (have fP : w1.frozen? ⟨w.heap.size, 0, none⟩ = false := hP1.2.1 0)))
    simp [bodyPost, results, Tryz.results16, go_sem, cP]
    exact ⟨(hBW.trans (hb.mono hBW.size)).setCell (Nat.le_refl _) _, rfl⟩
  | ok T =>
    obtain ⟨h1, h2, h3, h4, h5⟩ := lexT_good hl
    have hR0 := fun (w1 : World) (v : Value) (h : RowAt w1 v T) (ht : Tb w1) => rdp_new h1 h2 h3 h ht
    have hpe := parB_ok hl
    rw [← hpe] at hR0
    clear hpe
    generalize parB s.data.toList = r at hR0 ⊢
    have hC := cut_ok s T W hTW hl
    go_enter Tryz.func16, Tryz.ntmps16
    go_wp2_with first
      | (go_at_call 31; ((with_reducible refine hC.mono ?_); (rintro e w1 ⟨⟨v, rfl, hv⟩, hb⟩); (have hP1 := rowG_b hrP hb); (have hR := hR0 _ _ (hv.at (List.length_pos_iff.1 h2)) (hTW.of hb))))
      | (go_at_call 32; ((with_reducible refine hR.mono ?_); (rintro e w2 h2); (obtain ⟨mx, nx, cx, yx, rfl⟩ := h2.form); (have hP2 := rowG_b hP1 h2.1); (have cP : w2.cell? ⟨w.heap.size, 0, none⟩ = some (.slice none 0 0) := hP2.1 0 (by simp)); (have fP : w2.frozen? ⟨w.heap.size, 0, none⟩ = false := hP2.2.1 0)))
    simp [bodyPost, results, Tryz.results16, go_sem, cP]
    exact h2.up (hBW.trans (hb.mono hBW.size)) (by have := hb.size; omega) _
end Go.Proofs.YtfpoflddnlbpjaaGreatDoor
