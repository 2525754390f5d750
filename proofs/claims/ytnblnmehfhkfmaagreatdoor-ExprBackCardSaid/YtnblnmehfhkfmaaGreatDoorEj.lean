/- Contracts of the reader's parts: number, name, op. -/
import Derived.Test.YtnblnmehfhkfmaaGreatDoorEi
namespace Go.Proofs.YtnblnmehfhkfmaaGreatDoor
open Go.ChangeShapes Go.WideShapes Go.ChangeAt Go.RowKit
set_option linter.unusedVariables false
theorem fld1 (k : Int) (s : ByteArray) (n z : Int) : ∀ w : World, (Instr.field 39 (.agg #[.int .u8 k, .string s, .int .u64 n, .int .i64 z]) 1).run Tryz.prog w = .ok (.string s) w := fun _ => by kernel_rfl
theorem fld2 (k : Int) (s : ByteArray) (n z : Int) : ∀ w : World, (Instr.field 39 (.agg #[.int .u8 k, .string s, .int .u64 n, .int .i64 z]) 2).run Tryz.prog w = .ok (.int .u64 n) w := fun _ => by kernel_rfl
/-- The blocks of the laid variables that are asked for. -/
def GB (j : Nat) : Prop := j = 3 ∨ j = 2 ∨ j = 6 ∨ j = 0 ∨ j = 4 ∨ j = 5 ∨ j = 1
theorem var_only {S : Nat → Prop} {w w' : World} (ho : Only S w w') {n : String} {g : Nat} {cs : Array Value} (hg : Tryz.prog.globalNamed n = some g) (hn : ¬ S g) (h : w.var? Tryz.prog n = some cs) : w'.var? Tryz.prog n = some cs := by
  unfold World.var? at h ⊢
  rw [hg] at h ⊢
  simp only [Option.bind_some] at h ⊢
  have hlt : g < w.heap.size := by
    rcases Nat.lt_or_ge g w.heap.size with h1 | h1
    · exact h1
    · rw [Array.getElem?_eq_none h1] at h; simp at h
  rw [ho.block g hlt hn]
  exact h
theorem Tb.only {S : Nat → Prop} {w w' : World} (h : Tb w) (ho : Only S w w') (hn : ∀ j, GB j → ¬ S j) : Tb w' :=
  ⟨fun j hj => ho.cell (hn _ (by unfold GB; simp)) (h.words j hj), fun j hj => ho.cell (hn _ (by unfold GB; simp)) (h.signs j hj), var_only ho (g := 6) (by kernel_rfl) (hn _ (by unfold GB; simp)) h.pow, ho.cell (hn _ (by unfold GB; simp)) h.ety,
   let ⟨a, b, c⟩ := h.syn; ⟨a, b, var_only ho (g := 4) (by kernel_rfl) (hn _ (by unfold GB; simp)) c⟩, let ⟨a, b, c⟩ := h.ran; ⟨a, b, var_only ho (g := 5) (by kernel_rfl) (hn _ (by unfold GB; simp)) c⟩, fun j hj => ho.cell (hn _ (by unfold GB; simp)) (h.esg j hj)⟩
theorem var_lt {w : World} {n : String} {g : Nat} {cs : Array Value} (hg : Tryz.prog.globalNamed n = some g) (h : w.var? Tryz.prog n = some cs) : g < w.heap.size := by
  unfold World.var? at h
  rw [hg] at h
  simp only [Option.bind_some] at h
  rcases Nat.lt_or_ge g w.heap.size with h1 | h1
  · exact h1
  · rw [Array.getElem?_eq_none h1] at h; simp at h
theorem Tb.lt {w : World} (h : Tb w) {j : Nat} (hj : GB j) : j < w.heap.size := by
  rcases hj with rfl | rfl | rfl | rfl | rfl | rfl | rfl
  · exact World.block_lt_of_cell? w _ (h.words 0 (by omega))
  · exact World.block_lt_of_cell? w _ (h.signs 0 (by omega))
  · exact var_lt (by kernel_rfl) h.pow
  · exact World.block_lt_of_cell? w _ h.ety
  · obtain ⟨a, b, c⟩ := h.syn; exact var_lt (by kernel_rfl) c
  · obtain ⟨a, b, c⟩ := h.ran; exact var_lt (by kernel_rfl) c
  · exact World.block_lt_of_cell? w _ (h.esg 0 (by omega))
/-- The box of what is read, beside its reader. -/
structure Bx (w : World) (eb rb : Nat) (v : Option Nat) (c0 c1 c2 c3 c4 : Value) : Prop where
  row : rowG #[c0, c1, c2, c3, c4] w eb
  n1 : ¬ eb = rb
  n2 : ¬ v = some eb
theorem Bx.e {w : World} {eb rb : Nat} {v : Option Nat} {c0 c1 c2 c3 c4 : Value} (h : Bx w eb rb v c0 c1 c2 c3 c4) : w.cell? ⟨eb, 0, none⟩ = some c0 ∧ w.cell? ⟨eb, 1, none⟩ = some c1 ∧ w.cell? ⟨eb, 2, none⟩ = some c2 ∧ w.cell? ⟨eb, 3, none⟩ = some c3 ∧ w.cell? ⟨eb, 4, none⟩ = some c4 ∧ eb < w.heap.size ∧ ∀ k, w.frozen? ⟨eb, k, none⟩ = false :=
  ⟨h.row.1 0 (by simp), h.row.1 1 (by simp), h.row.1 2 (by simp), h.row.1 3 (by simp), h.row.1 4 (by simp), h.row.2.2, h.row.2.1⟩
theorem Bx.of {w w' : World} {eb rb : Nat} {v : Option Nat} {c0 c1 c2 c3 c4 : Value} (h : Bx w eb rb v c0 c1 c2 c3 c4) (hb : Below w.heap.size w w') : Bx w' eb rb v c0 c1 c2 c3 c4 := { h with row := rowG_b h.row hb }
theorem Bx.only {w w' : World} {eb rb : Nat} {v : Option Nat} {c0 c1 c2 c3 c4 : Value} {S : Nat → Prop} (h : Bx w eb rb v c0 c1 c2 c3 c4) (ho : Only S w w') (hs : ¬ S eb) : Bx w' eb rb v c0 c1 c2 c3 c4 := { h with row := rowG_only h.row ho hs }
theorem row5_set {c0 c1 c2 c3 c4 : Value} (i : Nat) (hi : i < 5) (u : Value) {w : World} {k : Nat} (h : rowG #[c0, c1, c2, c3, c4] w k) : rowG (#[c0, c1, c2, c3, c4].set! i u) (w.setCell ⟨k, i, none⟩ u) k := by
  refine ⟨fun j hj => ?_, fun j => by rw [World.frozen?_setCell]; exact h.2.1 j, by rw [World.size_setCell]; exact h.2.2⟩
  have hj' : j < 5 := by simpa using hj
  have hc := h.1 j (by simpa using hj')
  by_cases e : j = i
  · subst e
    rw [cset_same (u := #[c0, c1, c2, c3, c4][j]) (by rw [hc]; exact Array.getElem?_eq_getElem (by simpa using hj'))]
    rw [Array.set!_eq_setIfInBounds, Array.getElem?_setIfInBounds]
    simp [hj']
  · rw [cset (u := #[c0, c1, c2, c3, c4][j]'(by simpa using hj')) (by rw [hc]; exact Array.getElem?_eq_getElem (by simpa using hj')) e]
    rw [Array.set!_eq_setIfInBounds, Array.getElem?_setIfInBounds, if_neg (fun h => e h.symm)]
    exact (Array.getElem?_eq_getElem (by simpa using hj')).symm
/-- What a part leaves. -/
structure PtP (w w' : World) (eb rb : Nat) (v : Value) (T : List (Tk × Int)) (p d : Int) (c0 c1 c2 c3 c4 : Value) : Prop where
  rd : IsRd w' rb v T p d
  bx : Bx w' eb rb (ob v T) c0 c1 c2 c3 c4
  only : Only (fun j => j = rb ∨ j = eb) w w'
theorem PtP.post {w w1 w' : World} {eb rb : Nat} {v : Value} {T : List (Tk × Int)} {p d : Int} {c0 c1 c2 c3 c4 : Value} (ho : Only (fun j => j = rb ∨ j = eb) w w1) (h : Bx w1 eb rb (ob v T) c0 c1 c2 c3 c4) (k : TkP w1 w' rb v T p d) : PtP w w' eb rb v T p d c0 c1 c2 c3 c4 :=
  ⟨k.rd, h.only k.only h.n1, ho.trans (k.only.mono fun j hj => .inl hj)⟩

set_option maxRecDepth 100000 in
set_option maxHeartbeats 2000000 in
theorem number_no {w : World} {rb eb : Nat} {v : Value} {T : List (Tk × Int)} {p d : Int} {c0 c1 c2 c3 c4 : Value} (h : IsRd w rb v T p d) (hx : Bx w eb rb (ob v T) c0 c1 c2 c3 c4) (n : Nat) (s : List UInt8) (ht : tokAt T p = ⟨3, s, n⟩) (hs : ¬ s = []) :
    Calls Tryz.prog 58 #[.pointer (some ⟨rb, 0, none⟩), .pointer (some ⟨eb, 0, none⟩)] w fun e w' => e = .returned (.int .i64 7) ∧ PtP w w' eb rb v T p d c0 (.int .u64 (n : Int)) c2 c3 c4 := by
  have hA := ahead0 h
  rw [ht] at hA
  dsimp only [tokV] at hA
  have hfl := fun (k : Int) (s : ByteArray) (n z : Int) => fld2 k s n z
  have HR := Lib.hid h
  have HX := Lib.hid hx
  have HT := Lib.hid ht
  clear h hx ht
  go_enter Tryz.func58, Tryz.ntmps58
  go_wp2_with (go_at_call 57; ((with_reducible refine hA.mono ?_); (rintro e w1 ⟨rfl, hb1⟩); obtain ⟨e0, e1, e2, e3, e4, hel, hef⟩ := (HX.out.of hb1).e; have ef1 := hef 1))
  obtain ⟨W, hW⟩ : ∃ W, w1.setCell ⟨eb, 1, none⟩ (.int .u64 (n : Int)) = W := ⟨_, rfl⟩
  have hX1 : Bx W eb rb (ob v T) c0 (.int .u64 (n : Int)) c2 c3 c4 := ⟨by rw [← hW]; exact row5_set 1 (by omega) _ (HX.out.of hb1).row, HX.out.n1, HX.out.n2⟩
  have hO1 : Only (fun j => j = eb) w1 W := by rw [← hW]; exact only_one _ _ _ _
  have hR1 : IsRd W rb v T p d := (HR.out.of hb1).only hO1 (fun e => HX.out.n1 e.symm) (fun j hj e => HX.out.n2 (by rw [hj, e]))
  have hO : Only (fun j => j = rb ∨ j = eb) w W := (only_below hb1).trans (hO1.mono fun j hj => .inr hj)
  clear hef e0 e1 e2 e3 e4 ef1 hel
  rw [hW]
  clear hW
  obtain ⟨e0, e1, e2, e3, e4, hel, hef⟩ := hX1.e
  have hN := number_any n W
  have hK : ∀ w2, Below W.heap.size W w2 → Calls Tryz.prog 73 #[.pointer (some ⟨rb, 0, none⟩), .agg #[.int .u8 3, .string ⟨#[]⟩, .int .u64 (n : Int), .int .i64 0]] w2 fun e w' => e = .returned (.int .i64 7) ∧ Below w2.heap.size w2 w' := fun w2 hb => take_no (hR1.of hb) ⟨3, [], n⟩ (by rw [HT.out]; intro e; exact hs (congrArg Tk.t e))
  go_wp2_with (first | (go_at_call 33; ((with_reducible refine hN.mono ?_); (rintro e w2 ⟨rfl, hb2⟩))) | (go_at_call 73; ((with_reducible refine (hK _ hb2).mono ?_); (rintro e w3 ⟨rfl, hb3⟩))))
  go_ret
  have hB := tr hb2 hb3
  exact ⟨rfl, hR1.of hB, hX1.of hB, hO.trans (only_below hB)⟩
set_option maxRecDepth 100000 in
set_option maxHeartbeats 2000000 in
theorem number_yes {w : World} {rb eb : Nat} {v : Value} {T : List (Tk × Int)} {p d : Int} {c0 c1 c2 c3 c4 : Value} (h : IsRd w rb v T p d) (hx : Bx w eb rb (ob v T) c0 c1 c2 c3 c4) (n : Nat) (s : List UInt8) (ht : tokAt T p = ⟨3, s, n⟩) (hs : s = []) (h0 : 0 ≤ p) (h1 : p < T.length) :
    Calls Tryz.prog 58 #[.pointer (some ⟨rb, 0, none⟩), .pointer (some ⟨eb, 0, none⟩)] w fun e w' => e = .returned (.int .i64 0) ∧ PtP w w' eb rb v T (p + 1) d c0 (.int .u64 (n : Int)) c2 c3 c4 := by
  subst hs
  have hA := ahead0 h
  rw [ht] at hA
  dsimp only [tokV] at hA
  have hfl := fun (k : Int) (s : ByteArray) (n z : Int) => fld2 k s n z
  have HR := Lib.hid h
  have HX := Lib.hid hx
  have HT := Lib.hid ht
  clear h hx ht
  go_enter Tryz.func58, Tryz.ntmps58
  go_wp2_with (go_at_call 57; ((with_reducible refine hA.mono ?_); (rintro e w1 ⟨rfl, hb1⟩); obtain ⟨e0, e1, e2, e3, e4, hel, hef⟩ := (HX.out.of hb1).e; have ef1 := hef 1))
  obtain ⟨W, hW⟩ : ∃ W, w1.setCell ⟨eb, 1, none⟩ (.int .u64 (n : Int)) = W := ⟨_, rfl⟩
  have hX1 : Bx W eb rb (ob v T) c0 (.int .u64 (n : Int)) c2 c3 c4 := ⟨by rw [← hW]; exact row5_set 1 (by omega) _ (HX.out.of hb1).row, HX.out.n1, HX.out.n2⟩
  have hO1 : Only (fun j => j = eb) w1 W := by rw [← hW]; exact only_one _ _ _ _
  have hR1 : IsRd W rb v T p d := (HR.out.of hb1).only hO1 (fun e => HX.out.n1 e.symm) (fun j hj e => HX.out.n2 (by rw [hj, e]))
  have hO : Only (fun j => j = rb ∨ j = eb) w W := (only_below hb1).trans (hO1.mono fun j hj => .inr hj)
  clear hef e0 e1 e2 e3 e4 ef1 hel
  rw [hW]
  clear hW
  obtain ⟨e0, e1, e2, e3, e4, hel, hef⟩ := hX1.e
  have hN := number_any n W
  have hK : ∀ w2, Below W.heap.size W w2 → Calls Tryz.prog 73 #[.pointer (some ⟨rb, 0, none⟩), .agg #[.int .u8 3, .string ⟨#[]⟩, .int .u64 (n : Int), .int .i64 0]] w2 fun e w' => e = .returned (.int .i64 0) ∧ TkP w2 w' rb v T (p + 1) d := fun w2 hb => take_yes (hR1.of hb) ⟨3, [], n⟩ HT.out h0 h1
  go_wp2_with (first | (go_at_call 33; ((with_reducible refine hN.mono ?_); (rintro e w2 ⟨rfl, hb2⟩))) | (go_at_call 73; ((with_reducible refine (hK _ hb2).mono ?_); (rintro e w3 ⟨rfl, hP⟩))))
  go_ret
  exact ⟨rfl, PtP.post (hO.trans (only_below hb2)) (hX1.of hb2) hP⟩
set_option maxRecDepth 100000 in
set_option maxHeartbeats 2000000 in
theorem name_no {w : World} {rb eb : Nat} {v : Value} {T : List (Tk × Int)} {p d : Int} {c0 c1 c2 c3 c4 : Value} (h : IsRd w rb v T p d) (hx : Bx w eb rb (ob v T) c0 c1 c2 c3 c4) (hT : Tb w) (hG : ¬ GB eb) (t : Tk) (ht : tokAt T p = t) (hn : nameT t = false) :
    Calls Tryz.prog 60 #[.pointer (some ⟨rb, 0, none⟩), .pointer (some ⟨eb, 0, none⟩)] w fun e w' => e = .returned (.int .i64 7) ∧ PtP w w' eb rb v T p d c0 c1 (.string (str t.t)) c3 c4 := by
  have hA := ahead0 h
  rw [ht] at hA
  dsimp only [tokV] at hA
  have hfl := fld1 t.k (str t.t) t.n 0
  have HR := Lib.hid h
  have HX := Lib.hid hx
  have HT := Lib.hid ht
  clear h hx ht
  go_enter Tryz.func60, Tryz.ntmps60
  go_wp2_with (go_at_call 57; ((with_reducible refine hA.mono ?_); (rintro e w1 ⟨rfl, hb1⟩); obtain ⟨e0, e1, e2, e3, e4, hel, hef⟩ := (HX.out.of hb1).e; have ef1 := hef 2))
  obtain ⟨W, hW⟩ : ∃ W, w1.setCell ⟨eb, 2, none⟩ (.string (str t.t)) = W := ⟨_, rfl⟩
  have hX1 : Bx W eb rb (ob v T) c0 c1 (.string (str t.t)) c3 c4 := ⟨by rw [← hW]; exact row5_set 2 (by omega) _ (HX.out.of hb1).row, HX.out.n1, HX.out.n2⟩
  have hO1 : Only (fun j => j = eb) w1 W := by rw [← hW]; exact only_one _ _ _ _
  have hR1 : IsRd W rb v T p d := (HR.out.of hb1).only hO1 (fun e => HX.out.n1 e.symm) (fun j hj e => HX.out.n2 (by rw [hj, e]))
  have hO : Only (fun j => j = rb ∨ j = eb) w W := (only_below hb1).trans (hO1.mono fun j hj => .inr hj)
  have hT1 : Tb W := (hT.of hb1).only hO1 (fun j hj e => hG (by rw [← e]; exact hj))
  clear hef e0 e1 e2 e3 e4 ef1 hel
  rw [hW]
  clear hW
  obtain ⟨e0, e1, e2, e3, e4, hel, hef⟩ := hX1.e
  have hN := nmd_str t.t W hT1
  cases hb : nmdB t.t with
  | false =>
    rw [hb] at hN
    clear hb hn
    go_wp2_with (go_at_call 55; ((with_reducible refine hN.mono ?_); (rintro e w2 ⟨rfl, hb2⟩)))
    go_ret
    exact ⟨rfl, hR1.of hb2, hX1.of hb2, hO.trans (only_below hb2)⟩
  | true =>
    rw [hb] at hN
    have hK : ∀ w2, Below W.heap.size W w2 → Calls Tryz.prog 73 #[.pointer (some ⟨rb, 0, none⟩), .agg #[.int .u8 1, .string (str t.t), .int .u64 0, .int .i64 0]] w2 fun e w' => e = .returned (.int .i64 7) ∧ Below w2.heap.size w2 w' := fun w2 hb2 => take_no (hR1.of hb2) ⟨1, t.t, 0⟩ (by
      rw [HT.out]; intro e; rw [e] at hn
      have : nameT (nmT t.t) = true := by simp [nameT, nmT, hb]
      rw [show (⟨1, t.t, 0⟩ : Tk) = nmT t.t from rfl, this] at hn; cases hn)
    have hM := name_any (str t.t)
    clear hb hn
    go_wp2_with (first | (go_at_call 55; ((with_reducible refine hN.mono ?_); (rintro e w2 ⟨rfl, hb2⟩); obtain ⟨hc2, hf2⟩ := bcell hb2; have hz2 := Nat.lt_of_lt_of_le hel hb2.size)) | (go_at_call 34; ((with_reducible refine (hM _).mono ?_); (rintro e w3 ⟨rfl, hb3⟩); have hB3 := tr hb2 hb3)) | (go_at_call 73; ((with_reducible refine (hK _ hB3).mono ?_); (rintro e w4 ⟨rfl, hb4⟩))))
    go_ret
    have hB := tr hB3 hb4
    exact ⟨rfl, hR1.of hB, hX1.of hB, hO.trans (only_below hB)⟩
set_option maxRecDepth 100000 in
set_option maxHeartbeats 2000000 in
theorem name_yes {w : World} {rb eb : Nat} {v : Value} {T : List (Tk × Int)} {p d : Int} {c0 c1 c2 c3 c4 : Value} (h : IsRd w rb v T p d) (hx : Bx w eb rb (ob v T) c0 c1 c2 c3 c4) (hT : Tb w) (hG : ¬ GB eb) (t : Tk) (ht : tokAt T p = t) (hn : nameT t = true) (h0 : 0 ≤ p) (h1 : p < T.length) :
    Calls Tryz.prog 60 #[.pointer (some ⟨rb, 0, none⟩), .pointer (some ⟨eb, 0, none⟩)] w fun e w' => e = .returned (.int .i64 0) ∧ PtP w w' eb rb v T (p + 1) d c0 c1 (.string (str t.t)) c3 c4 := by
  have hA := ahead0 h
  rw [ht] at hA
  dsimp only [tokV] at hA
  have hfl := fld1 t.k (str t.t) t.n 0
  have HR := Lib.hid h
  have HX := Lib.hid hx
  have HT := Lib.hid ht
  clear h hx ht
  go_enter Tryz.func60, Tryz.ntmps60
  go_wp2_with (go_at_call 57; ((with_reducible refine hA.mono ?_); (rintro e w1 ⟨rfl, hb1⟩); obtain ⟨e0, e1, e2, e3, e4, hel, hef⟩ := (HX.out.of hb1).e; have ef1 := hef 2))
  obtain ⟨W, hW⟩ : ∃ W, w1.setCell ⟨eb, 2, none⟩ (.string (str t.t)) = W := ⟨_, rfl⟩
  have hX1 : Bx W eb rb (ob v T) c0 c1 (.string (str t.t)) c3 c4 := ⟨by rw [← hW]; exact row5_set 2 (by omega) _ (HX.out.of hb1).row, HX.out.n1, HX.out.n2⟩
  have hO1 : Only (fun j => j = eb) w1 W := by rw [← hW]; exact only_one _ _ _ _
  have hR1 : IsRd W rb v T p d := (HR.out.of hb1).only hO1 (fun e => HX.out.n1 e.symm) (fun j hj e => HX.out.n2 (by rw [hj, e]))
  have hO : Only (fun j => j = rb ∨ j = eb) w W := (only_below hb1).trans (hO1.mono fun j hj => .inr hj)
  have hT1 : Tb W := (hT.of hb1).only hO1 (fun j hj e => hG (by rw [← e]; exact hj))
  clear hef e0 e1 e2 e3 e4 ef1 hel
  rw [hW]
  clear hW
  obtain ⟨e0, e1, e2, e3, e4, hel, hef⟩ := hX1.e
  have hN := nmd_str t.t W hT1
  obtain ⟨he, hb⟩ := name_of hn
  rw [hb] at hN
  have hK : ∀ w2, Below W.heap.size W w2 → Calls Tryz.prog 73 #[.pointer (some ⟨rb, 0, none⟩), .agg #[.int .u8 1, .string (str t.t), .int .u64 0, .int .i64 0]] w2 fun e w' => e = .returned (.int .i64 0) ∧ TkP w2 w' rb v T (p + 1) d := fun w2 hb2 => take_yes (hR1.of hb2) (nmT t.t) (by rw [HT.out]; exact he) h0 h1
  have hM := name_any (str t.t)
  clear hb hn he
  go_wp2_with (first | (go_at_call 55; ((with_reducible refine hN.mono ?_); (rintro e w2 ⟨rfl, hb2⟩); obtain ⟨hc2, hf2⟩ := bcell hb2; have hz2 := Nat.lt_of_lt_of_le hel hb2.size)) | (go_at_call 34; ((with_reducible refine (hM _).mono ?_); (rintro e w3 ⟨rfl, hb3⟩); have hB3 := tr hb2 hb3)) | (go_at_call 73; ((with_reducible refine (hK _ hB3).mono ?_); (rintro e w4 ⟨rfl, hP⟩))))
  go_ret
  exact ⟨rfl, PtP.post (hO.trans (only_below hB3)) (hX1.of hB3) hP⟩
theorem opS_inj {a b : Nat} (h : opS a = opS b) (hn : opS a ≠ []) : a = b := by
  have h1 := opOf_sg a hn
  have h2 := opOf_sg b (by rw [← h]; exact hn)
  rw [h] at h1
  exact h1.symm.trans h2
set_option maxRecDepth 100000 in
set_option maxHeartbeats 4000000 in
theorem op_no {w : World} {rb : Nat} {eb : Option Addr} {v : Value} {T : List (Tk × Int)} {p d : Int} (h : IsRd w rb v T p d) (hT : Tb w) (hno : ∀ j, opS j ≠ [] → ¬ tokAt T p = sg (opS j)) :
    Calls Tryz.prog 62 #[.pointer (some ⟨rb, 0, none⟩), .pointer eb] w fun e w' => e = .returned (.int .i64 7) ∧ Below w.heap.size w w' := by
  have HN := Lib.hid hno
  clear hno
  obtain ⟨V, hVd, hV⟩ : ∃ V : Nat → ByteArray, (∀ j, V j = str (opS j)) ∧ ∀ j < 15, w.cell? ⟨1, j, none⟩ = some (.string (V j)) := ⟨fun j => str (opS j), fun _ => rfl, hT.esg⟩
  have HD := Lib.hid hVd
  clear hVd hT
  obtain ⟨cs, hl, hg, hc⟩ := tab_list V 15
  have hR0 : w.rangeAt 1 0 cs := fun j v h => by obtain ⟨h1, rfl⟩ := hc j v h; rw [Nat.zero_add]; exact hV j h1
  have hI0 : (Tryz.prog.info? 96).map (·.size) = some cs.length := by rw [hl]; kernel_rfl
  have HR0 := Lib.hid hR0
  have HI0 := Lib.hid hI0
  clear hR0 hI0
  have HG := Lib.hid hg
  clear hV hg hc hl
  have HR := Lib.hid h
  clear h
  go_enter Tryz.func62, Tryz.ntmps62
  go_wp2_with (with_reducible refine wpList_load_mid rfl _ _ rfl 1 0 rfl cs _ HR0.out Tryz.underlying96 rfl HI0.out ?_)
  go_loopw [8] (fun i wr => ∃ k : Nat, k ≤ 15 ∧ i = .int .i64 k ∧ Below w.heap.size w wr) (fun i _ => 15 - (intOf i).toNat)
  case atStart => exact ⟨0, by omega, rfl, Below.refl _ _⟩
  case round =>
    obtain ⟨k, hk, rfl, hB⟩ := hrel
    by_cases hlt : k < 15
    · have hx := fun W => run_ix 96 15 cs k (V k) W Tryz.underlying96 hlt (HG.out k hlt)
      by_cases he : opS k = []
      · have hem : (V k).toList.isEmpty = true := by rw [HD.out k, strE, he]; rfl
        clear he
        go_wp2
        go_roundw
        case rel => exact ⟨k + 1, by omega, by go_num, hB⟩
        case measure => simp [intOf]; omega
      · have hem : (V k).toList.isEmpty = false := by rw [HD.out k, strE, decide_eq_false he]
        have hS : ∀ w, Calls Tryz.prog 35 #[.string (V k)] w fun e w' => e = .returned (.agg #[.int .u8 4, .string (V k), .int .u64 0, .int .i64 0]) ∧ Below w.heap.size w w' := fun w => sign_any (V k) w
        have hK : ∀ w2, Below wr.heap.size wr w2 → Calls Tryz.prog 73 #[.pointer (some ⟨rb, 0, none⟩), .agg #[.int .u8 4, .string (V k), .int .u64 0, .int .i64 0]] w2 fun e w' => e = .returned (.int .i64 7) ∧ Below w2.heap.size w2 w' := fun w2 hb => by
          have := take_no ((HR.out.of hB).of hb) (sg (opS k)) (HN.out k he)
          unfold tokV at this
          rw [show (sg (opS k)).t = opS k from rfl, ← HD.out k] at this
          exact this
        clear he
        go_wp2_with (first | (go_at_call 35; ((with_reducible refine (hS _).mono ?_); (rintro e w2 ⟨rfl, hb2⟩))) | (go_at_call 73; ((with_reducible refine (hK _ hb2).mono ?_); (rintro e w3 ⟨rfl, hb3⟩))))
        go_roundw
        case rel => exact ⟨k + 1, by omega, by go_num, tr hB (tr hb2 hb3)⟩
        case measure => simp [intOf]; omega
    · obtain rfl : k = 15 := by omega
      go_wp2
      go_ret
      exact ⟨rfl, hB⟩
set_option maxRecDepth 100000 in
set_option maxHeartbeats 4000000 in
theorem op_yes {w : World} {rb eb : Nat} {v : Value} {T : List (Tk × Int)} {p d : Int} {c0 c1 c2 c3 c4 : Value} (h : IsRd w rb v T p d) (hx : Bx w eb rb (ob v T) c0 c1 c2 c3 c4) (hT : Tb w) (o : Nat) (ho : opS o ≠ []) (ht : tokAt T p = sg (opS o)) (h0 : 0 ≤ p) (h1 : p < T.length) :
    Calls Tryz.prog 62 #[.pointer (some ⟨rb, 0, none⟩), .pointer (some ⟨eb, 0, none⟩)] w fun e w' => e = .returned (.int .i64 0) ∧ PtP w w' eb rb v T (p + 1) d c0 c1 c2 (.int .u8 (o : Int)) c4 := by
  have ho15 : o < 15 := by
    rcases Nat.lt_or_ge o 15 with h | h
    · exact h
    · exact absurd (opS_big h) ho
  have HN : Hid (∀ k, k < o → opS k ≠ [] → ¬ tokAt T p = sg (opS k)) := Lib.hid fun k hk hk0 e => by
    rw [ht] at e
    have := opS_inj (congrArg Tk.t e : opS o = opS k) ho
    omega
  have HO := Lib.hid ho
  have HTT := Lib.hid ht
  have HX := Lib.hid hx
  clear ho ht hx
  obtain ⟨V, hVd, hV⟩ : ∃ V : Nat → ByteArray, (∀ j, V j = str (opS j)) ∧ ∀ j < 15, w.cell? ⟨1, j, none⟩ = some (.string (V j)) := ⟨fun j => str (opS j), fun _ => rfl, hT.esg⟩
  have HD := Lib.hid hVd
  clear hVd hT
  obtain ⟨cs, hl, hg, hc⟩ := tab_list V 15
  have hR0 : w.rangeAt 1 0 cs := fun j v h => by obtain ⟨h1, rfl⟩ := hc j v h; rw [Nat.zero_add]; exact hV j h1
  have hI0 : (Tryz.prog.info? 96).map (·.size) = some cs.length := by rw [hl]; kernel_rfl
  have HR0 := Lib.hid hR0
  have HI0 := Lib.hid hI0
  clear hR0 hI0
  have HG := Lib.hid hg
  clear hV hg hc hl
  have HR := Lib.hid h
  clear h
  go_enter Tryz.func62, Tryz.ntmps62
  go_wp2_with (with_reducible refine wpList_load_mid rfl _ _ rfl 1 0 rfl cs _ HR0.out Tryz.underlying96 rfl HI0.out ?_)
  go_loopw [8] (fun i wr => ∃ k : Nat, k ≤ o ∧ i = .int .i64 k ∧ Below w.heap.size w wr) (fun i _ => o + 1 - (intOf i).toNat)
  case atStart => exact ⟨0, by omega, rfl, Below.refl _ _⟩
  case round =>
    obtain ⟨k, hk, rfl, hB⟩ := hrel
    have hlt : k < 15 := by omega
    have hx := fun W => run_ix 96 15 cs k (V k) W Tryz.underlying96 hlt (HG.out k hlt)
    by_cases hko : k < o
    · by_cases he : opS k = []
      · have hem : (V k).toList.isEmpty = true := by rw [HD.out k, strE, he]; rfl
        clear he
        go_wp2
        go_roundw
        case rel => exact ⟨k + 1, by omega, by go_num, hB⟩
        case measure => simp [intOf]; omega
      · have hem : (V k).toList.isEmpty = false := by rw [HD.out k, strE, decide_eq_false he]
        have hS : ∀ w, Calls Tryz.prog 35 #[.string (V k)] w fun e w' => e = .returned (.agg #[.int .u8 4, .string (V k), .int .u64 0, .int .i64 0]) ∧ Below w.heap.size w w' := fun w => sign_any (V k) w
        have hK : ∀ w2, Below wr.heap.size wr w2 → Calls Tryz.prog 73 #[.pointer (some ⟨rb, 0, none⟩), .agg #[.int .u8 4, .string (V k), .int .u64 0, .int .i64 0]] w2 fun e w' => e = .returned (.int .i64 7) ∧ Below w2.heap.size w2 w' := fun w2 hb => by
          have := take_no ((HR.out.of hB).of hb) (sg (opS k)) (HN.out k hko he)
          unfold tokV at this
          rw [show (sg (opS k)).t = opS k from rfl, ← HD.out k] at this
          exact this
        clear he
        go_wp2_with (first | (go_at_call 35; ((with_reducible refine (hS _).mono ?_); (rintro e w2 ⟨rfl, hb2⟩))) | (go_at_call 73; ((with_reducible refine (hK _ hb2).mono ?_); (rintro e w3 ⟨rfl, hb3⟩))))
        go_roundw
        case rel => exact ⟨k + 1, by omega, by go_num, tr hB (tr hb2 hb3)⟩
        case measure => simp [intOf]; omega
    · obtain rfl : k = o := by omega
      have hem : (V k).toList.isEmpty = false := by rw [HD.out k, strE, decide_eq_false HO.out]
      have hw8 : IntKind.u8.wrap (k : Int) = (k : Int) := by rw [IntKind.wrap_u8]; omega
      have hS : ∀ w, Calls Tryz.prog 35 #[.string (V k)] w fun e w' => e = .returned (.agg #[.int .u8 4, .string (V k), .int .u64 0, .int .i64 0]) ∧ Below w.heap.size w w' := fun w => sign_any (V k) w
      have hK : ∀ w2, Below wr.heap.size wr w2 → Calls Tryz.prog 73 #[.pointer (some ⟨rb, 0, none⟩), .agg #[.int .u8 4, .string (V k), .int .u64 0, .int .i64 0]] w2 fun e w' => e = .returned (.int .i64 0) ∧ TkP w2 w' rb v T (p + 1) d := fun w2 hb => by
        have := take_yes ((HR.out.of hB).of hb) (sg (opS k)) HTT.out h0 h1
        unfold tokV at this
        rw [show (sg (opS k)).t = opS k from rfl, ← HD.out k] at this
        exact this
      go_wp2_with (first | (go_at_call 35; ((with_reducible refine (hS _).mono ?_); (rintro e w2 ⟨rfl, hb2⟩))) | (go_at_call 73; ((with_reducible refine (hK _ hb2).mono ?_); (rintro e w3 ⟨rfl, hP⟩); have hX3 := ((HX.out.of hB).of hb2).only hP.only HX.out.n1; obtain ⟨e0, e1, e2, e3, e4, hel, hef⟩ := hX3.e; have ef3 := hef 3)))
      go_ret
      have hO1 := only_one w3 eb 3 (.int .u8 (k : Int))
      exact ⟨rfl, hP.rd.only hO1 (fun e => HX.out.n1 e.symm) (fun j hj e => HX.out.n2 (by rw [hj, e])), ⟨row5_set 3 (by omega) _ hX3.row, HX.out.n1, HX.out.n2⟩, ((only_below (tr hB hb2)).trans (hP.only.mono fun j hj => .inl hj)).trans (hO1.mono fun j hj => .inr hj)⟩
end Go.Proofs.YtnblnmehfhkfmaaGreatDoor
