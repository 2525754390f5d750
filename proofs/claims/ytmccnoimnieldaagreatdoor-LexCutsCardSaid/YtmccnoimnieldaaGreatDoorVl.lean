/- Contracts of what a statement asks of lex: Same, Bare, Told. -/
import Derived.Test.YtmccnoimnieldaaGreatDoorVk
namespace Go.Proofs.YtmccnoimnieldaaGreatDoor
open Go.ChangeShapes Go.WideShapes Go.ChangeAt Go.RowKit
set_option linter.unusedVariables false
theorem same_nil (w : World) : Calls Tryz.prog 7 #[.slice none 0 0, .slice none 0 0] w fun e w' => e = .returned (.bool true) ∧ w' = w := by
  go_enter Tryz.func7, Tryz.ntmps7
  go_wp2
  refine wp_loop_rounds 1 ?_
  rw [rounds_succ]
  go_wp2
  go_ret
  exact ⟨rfl, rfl⟩
set_option maxRecDepth 100000 in
set_option maxHeartbeats 1000000 in
theorem same_yes (v1 v2 : Value) (T : List (Tk × Nat)) (w : World) (h1 : RowAt w v1 T) (h2 : RowAt w v2 T) (hn : T.length ≤ 100000) :
    Calls Tryz.prog 7 #[v1, v2] w fun e w' => e = .returned (.bool true) ∧ ∃ n, w' = w.drewN n := by
  obtain ⟨b1, o1, n1, c1, rfl, hn1, hl1, hc1⟩ := h1.row
  obtain ⟨b2, o2, n2, c2, rfl, hn2, hl2, hc2⟩ := h2.row
  have HC1 := Lib.hid hc1
  have HC2 := Lib.hid hc2
  obtain ⟨N, hN⟩ : ∃ N, T.length = N := ⟨_, rfl⟩
  rw [hN] at hn hn1 hn2
  subst hn1 hn2
  have HN := Lib.hid hN
  clear hc1 hc2 h1 h2 hN
  go_enter Tryz.func7, Tryz.ntmps7
  go_wp2
  go_loopw [5] (fun i wr => ∃ k : Nat, k ≤ n2 ∧ i = .int .i64 k ∧ ∃ n, wr = w.drewN n) (fun i _ => n2 - (intOf i).toNat)
  case atStart => exact ⟨0, Nat.zero_le _, rfl, 0, rfl⟩
  case round =>
    obtain ⟨k, hk, rfl, n, rfl⟩ := hrel
    by_cases hlt : k < n2
    · have hlt' : k < T.length := by rw [HN.out]; exact hlt
      obtain ⟨p0, p1, p2, p3⟩ := HC1.out k hlt'
      obtain ⟨q0, q1, q2, q3⟩ := HC2.out k hlt'
      generalize T[k] = x at p0 p1 p2 p3 q0 q1 q2 q3
      go_wp2
      go_quiet (fail)
      go_wp2
      go_roundw
      case rel => exact ⟨k + 1, by omega, by go_num, _, rfl⟩
      case measure => simp [intOf]; omega
    · obtain rfl : k = n2 := by omega
      go_wp2
      go_ret
      exact ⟨rfl, n, rfl⟩
theorem aB {w w1 : World} (h : Below w.heap.size w w1) (o : Obj) : Below w.heap.size w (w1.alloc o) := h.alloc h.size o
theorem aB2 {w w1 : World} (h : Below w.heap.size w w1) (o : Obj) : Below w.heap.size w (w1.alloc o) := h.alloc h.size o
theorem told_ok (w : World) : Calls Tryz.prog 8 #[.nilIface, .agg #[.int .i64 0, .int .i64 0]] w fun e w' => e = .returned (.bool true) ∧ Below w.heap.size w w' := by
  go_enter Tryz.func8, Tryz.ntmps8
  go_wp2
  go_ret
  exact ⟨rfl, (Below.refl _ _).alloc (Nat.le_refl _) _⟩
set_option maxRecDepth 100000 in
set_option maxHeartbeats 2000000 in
theorem told_er (a e0 : Int) (he : e0 ≠ 0) (w : World) (hT : Tb w) : Calls Tryz.prog 8 #[.iface 30 (.agg #[.int .i64 a, .int .i64 e0]), .agg #[.int .i64 a, .int .i64 e0]] w fun e w' => e = .returned (.bool true) ∧ Below w.heap.size w w' := by
  have he' : (e0 == 0) = false := by simpa using he
  have hI := is_any a e0
  have ht : ∀ o, (((w.alloc (.cells #[.int .i64 a, .int .i64 e0] 30)).alloc (.cells #[.int .i64 0, .int .i64 0] 30)).cell? ⟨w.heap.size + 1, o, none⟩) = (#[.int .i64 0, .int .i64 0] : Array Value)[o]? := fun o => by have := new_cell (w.alloc (.cells #[.int .i64 a, .int .i64 e0] 30)) #[.int .i64 0, .int .i64 0] 30 o; rw [World.size_alloc] at this; exact this
  have hAs := as_Ft a e0 (w.heap.size + 1) (.int .i64 0) (.int .i64 0) ((w.alloc (.cells #[.int .i64 a, .int .i64 e0] 30)).alloc (.cells #[.int .i64 0, .int .i64 0] 30)) ((hT.alloc _).alloc _).ety (ht 0) (by simp) (ht 1) (by simp)
  clear ht
  go_enter Tryz.func8, Tryz.ntmps8
  go_wp2_with (first | (go_at_call 13; ((with_reducible refine hAs.mono ?_); rintro e w2 ⟨rfl, rfl⟩)) | (go_at_call 15; ((with_reducible refine (hI _).mono ?_); rintro e w3 ⟨rfl, hb3⟩)))
  go_ret
  exact ⟨rfl, (aB (aB (aB (aB (aB (aB (Below.refl _ _) _) _) _) _) _) _).trans (hb3.mono (by simp; omega))⟩
/-! ### Joined -/
theorem infoS : (Tryz.prog.info? 9).map (fun i => (i.zero, i.size, i.bytes)) = some (some (.string ⟨#[]⟩), 1, 16) := by kernel_rfl
def strV (l : List (List UInt8)) : List Value := l.map fun x => .string (str x)
theorem strV_snoc (l : List (List UInt8)) (x : List UInt8) : strV (l ++ [x]) = strV l ++ [.string (str x)] := by simp [strV]
theorem pcs_app (a b : List Tk) : pcs (a ++ b) = pcs a ++ pcs b := by simp [pcs]
theorem pcs_len (l : List Tk) : (pcs l).length ≤ l.length := by
  induction l with
  | nil => simp [pcs]
  | cons t l ih =>
    have e : pcs (t :: l) = (if 1 ≤ t.k ∧ t.k ≤ 4 then [t.piece] else []) ++ pcs l := by simp [pcs]
    rw [e, List.length_append, List.length_cons]
    split <;> simp <;> omega
theorem join_of_row {w : World} {B : Nat} {v : Value} (l : List (List UInt8)) (h : w.ownsRow B 9 1 v l.length (strV l)) (hl : l.length ≤ 100000) (hj : (Lib.join l [32]).length ≤ 140737488355328) :
    Calls Tryz.prog 20 #[v, .string ⟨#[32]⟩] w fun e w' => e = .returned (.string (str (Lib.join l [32]))) ∧ Below w.heap.size w w' := by
  by_cases h0 : l = []
  · subst h0
    have hv : ∃ (a : Option Addr) (c : Nat), v = .slice a 0 c := by
      rcases h.2 with ⟨h1, _⟩ | ⟨g, cap, cur, hv, _⟩
      · exact ⟨_, _, h1⟩
      · exact ⟨_, _, hv⟩
    obtain ⟨a, c, rfl⟩ := hv
    exact (Lstrings_Join_none a c ⟨#[32]⟩ w).mono fun e w' h => ⟨h.1, by rw [h.2]; exact Below.refl _ _⟩
  · obtain ⟨m, hm⟩ : ∃ m, l.length = m + 1 := ⟨l.length - 1, by have := List.length_pos_iff.2 h0; omega⟩
    have h2 := h
    rw [hm] at h2
    obtain ⟨g, cap, hv⟩ := ownsRow_succ h2
    subst hv
    have hc : ∀ (j : Nat) x, (l.map str)[j]? = some x → w.cell? ⟨g, 0 + j, none⟩ = some (.string x) := fun j x hx => by
      have hj' : j < l.length := by have := (List.getElem?_eq_some_iff.1 hx).1; simpa using this
      rw [Nat.zero_add, h2.cellAt j (by omega)]
      rw [List.getElem?_map] at hx
      simp only [strV, List.getElem?_map]
      cases hq : l[j]? with
      | none => rw [hq] at hx; cases hx
      | some y => rw [hq] at hx; cases hx; rfl
    have hml : (l.map str).map (fun x : ByteArray => x.data.toList) = l := by
      rw [List.map_map]
      conv => rhs; rw [← List.map_id l]
      apply List.map_congr_left
      intro x _
      exact str_list x
    have hblt : g < w.heap.size := by
      exact (h2.lt g rfl).2
    have hcap : m + 1 ≤ cap := by
      rcases h2.2 with ⟨h1, _⟩ | ⟨g', cap', cur, hv, _, _, hr, _⟩
      · cases h1
      · cases hv; exact hr
    have := Lstrings_Join g 0 cap (l.map str) ⟨#[32]⟩ w hc hblt (by simp; omega) (by simp; omega) (by rw [hml]; exact hj)
    rw [hml, List.length_map, hm] at this
    exact this
theorem lens_pre (l r : List (List UInt8)) (x : List UInt8) : x.length ≤ (Lib.join (l ++ x :: r) [32]).length := by
  induction l with
  | nil => rw [List.nil_append, Lib.join_cons, List.length_append]; omega
  | cons y l ih =>
    rw [List.cons_append]
    cases l with
    | nil => rw [List.nil_append, join_two]; simp only [List.length_append, List.length_cons]; have := ih; rw [List.nil_append] at this; omega
    | cons z l => rw [List.cons_append, join_two]; simp only [List.length_append, List.length_cons]; have := ih; rw [List.cons_append] at this; omega
def KOk (T : List (Tk × Nat)) : Prop := ∀ x ∈ T, (x.1.k = 1 ∨ x.1.k = 2 ∨ x.1.k = 3 ∨ x.1.k = 4 ∨ x.1.k = 5) ∧ x.1.n < 18446744073709551616
set_option maxRecDepth 100000 in
set_option maxHeartbeats 4000000 in
theorem join_any (v : Value) (T : List (Tk × Nat)) (w : World) (h1 : RowAt w v T) (hn : T.length ≤ 100000) (hk : KOk T) (hj : (joinT (bare T)).length ≤ 1000000000) (hT : Tb w) :
    Calls Tryz.prog 11 #[v] w fun e w' => e = .returned (.string (str (joinT (bare T)))) ∧ Below w.heap.size w w' := by
  obtain ⟨b1, o1, n1, c1, rfl, hn1, hl1, hc1⟩ := h1.row
  obtain ⟨i0, hi, hz0, hz1, hz2⟩ := info_parts infoS
  have HC1 := Lib.hid hc1
  have HK := Lib.hid hk
  obtain ⟨N, hN⟩ : ∃ N, T.length = N := ⟨_, rfl⟩
  rw [hN] at hn hn1
  subst hn1
  have HN := Lib.hid hN
  clear hc1 h1 hN hk
  go_enter Tryz.func11, Tryz.ntmps11
  go_wp2
  go_loopw [3, 8] (fun r i wr => ∃ k : Nat, k ≤ n1 ∧ i = .int .i64 k ∧ wr.ownsRow w.heap.size 9 1 r (pcs (bare (T.take k))).length (strV (pcs (bare (T.take k)))) ∧ Below w.heap.size w wr) (fun _ i _ => n1 - (intOf i).toNat)
  case atStart => exact ⟨0, Nat.zero_le _, rfl, World.ownsRow_nil _ _ _ _, Below.refl _ _⟩
  case round =>
    obtain ⟨k, hkn, rfl, ho, hB⟩ := hrel
    by_cases hlt : k < n1
    · have hlt' : k < T.length := by rw [HN.out]; exact hlt
      obtain ⟨p0, p1, p2, p3⟩ := HC1.out k hlt'
      have q0 := stay hB p0
      have q1 := stay hB p1
      have q2 := stay hB p2
      have q3 := stay hB p3
      have hl2 : b1 < wr.heap.size := Nat.lt_of_lt_of_le hl1 hB.size
      obtain ⟨hkk, hnn⟩ := HK.out T[k] (List.getElem_mem hlt')
      have hsn : pcs (bare (T.take (k + 1))) = pcs (bare (T.take k)) ++ pcs [T[k].1] := by
        have hb : bare (T.take (k + 1)) = bare (T.take k) ++ [T[k].1] := by unfold bare; rw [List.take_succ_eq_append_getElem hlt', List.map_append]; rfl
        rw [hb, pcs_app]
      have hpl : (pcs (bare (T.take k))).length ≤ 100000 := by
        have := pcs_len (bare (T.take k))
        have h2 : (bare (T.take k)).length ≤ T.length := by simp only [bare, List.length_map, List.length_take]; omega
        have := HN.out
        omega
      have HSN := Lib.hid hsn
      clear hsn p0 p1 p2 p3
      generalize T[k] = x at q0 q1 q2 q3 hkk hnn HSN
      obtain ⟨⟨xk, xt, xn⟩, xa⟩ := x
      simp only at q0 q1 q2 q3 hkk hnn
      obtain ⟨M, hM⟩ : ∃ M, M = (pcs (bare (T.take k))).length := ⟨_, rfl⟩
      obtain ⟨L, hL⟩ : ∃ L, L = strV (pcs (bare (T.take k))) := ⟨_, rfl⟩
      rw [← hM, ← hL] at ho
      rw [← hM] at hpl
      have HM := Lib.hid hM
      have HL := Lib.hid hL
      clear hM hL
      rcases hkk with rfl | rfl | rfl | rfl | rfl
      · have hP : pcs [⟨1, xt, xn⟩] = [xt] := rfl
        rw [hP] at HSN
        go_wp2_with (at_builtin; refine wpList_append_own _ rfl _ _ 50 rfl w.heap.size 9 i0 _ 1 16 Tryz.underlying50 hi hz0 hz1 hz2 rfl (by decide) _ M L rfl ((ho.alloc _).alloc _) ⟨wr.heap.size + 1, 0, none⟩ 1 1 [.string (str (xt))] rfl rfl ?cN ?c0 ?c1 ?c2 ?c3 ?_)
        case cN => have hN2 := news_ok [.string (str xt)] 9 (wr.alloc (.cells #[.int .u8 1, .string (str xt), .int .u64 (xn : Int), .int .i64 (xa : Int)] 39)); rw [World.size_alloc] at hN2; exact hN2
        case c0 => intro u hu; simp at hu; subst hu; rfl
        case c1 => unfold maxLen; omega
        case c2 => omega
        case c3 => have h1 := hB.size; simp; omega
        intro v' w3 ho' hgr _
        have hBA : Below w.heap.size w ((wr.alloc (.cells #[.int .u8 1, .string (str xt), .int .u64 (xn : Int), .int .i64 (xa : Int)] 39)).alloc (.cells #[.string (str xt)] 9)) := aB2 (aB2 hB _) _
        have hB3 : Below w.heap.size w w3 := hBA.grown hgr hBA.size (fun j hj => (ho.lt j hj).1)
        have ho3 : w3.ownsRow w.heap.size 9 1 v' (pcs (bare (T.take (k + 1)))).length (strV (pcs (bare (T.take (k + 1))))) := by rw [HSN.out, List.length_append, strV_snoc, ← HM.out, ← HL.out]; exact ho'
        clear ho' hgr ho
        go_wp2
        go_roundw
        case rel => exact ⟨k + 1, by omega, by go_num, ho3, hB3⟩
        case measure => first | (simp [intOf]; done) | (simp [intOf]; omega)
      · have hP : pcs [⟨2, xt, xn⟩] = [xt] := rfl
        rw [hP] at HSN
        go_wp2_with (at_builtin; refine wpList_append_own _ rfl _ _ 50 rfl w.heap.size 9 i0 _ 1 16 Tryz.underlying50 hi hz0 hz1 hz2 rfl (by decide) _ M L rfl ((ho.alloc _).alloc _) ⟨wr.heap.size + 1, 0, none⟩ 1 1 [.string (str (xt))] rfl rfl ?cN ?c0 ?c1 ?c2 ?c3 ?_)
        case cN => have hN2 := news_ok [.string (str xt)] 9 (wr.alloc (.cells #[.int .u8 2, .string (str xt), .int .u64 (xn : Int), .int .i64 (xa : Int)] 39)); rw [World.size_alloc] at hN2; exact hN2
        case c0 => intro u hu; simp at hu; subst hu; rfl
        case c1 => unfold maxLen; omega
        case c2 => omega
        case c3 => have h1 := hB.size; simp; omega
        intro v' w3 ho' hgr _
        have hBA : Below w.heap.size w ((wr.alloc (.cells #[.int .u8 2, .string (str xt), .int .u64 (xn : Int), .int .i64 (xa : Int)] 39)).alloc (.cells #[.string (str xt)] 9)) := aB2 (aB2 hB _) _
        have hB3 : Below w.heap.size w w3 := hBA.grown hgr hBA.size (fun j hj => (ho.lt j hj).1)
        have ho3 : w3.ownsRow w.heap.size 9 1 v' (pcs (bare (T.take (k + 1)))).length (strV (pcs (bare (T.take (k + 1))))) := by rw [HSN.out, List.length_append, strV_snoc, ← HM.out, ← HL.out]; exact ho'
        clear ho' hgr ho
        go_wp2
        go_roundw
        case rel => exact ⟨k + 1, by omega, by go_num, ho3, hB3⟩
        case measure => first | (simp [intOf]; done) | (simp [intOf]; omega)
      · have hP : pcs [⟨3, xt, xn⟩] = [Lib.decDigits xn] := rfl
        rw [hP] at HSN
        have hD := digitsOf_any xn hnn (wr.alloc (.cells #[.int .u8 3, .string (str xt), .int .u64 (xn : Int), .int .i64 (xa : Int)] 39)) ((hT.of hB).alloc _).pow
        go_wp2_with (first | (go_at_call 19; ((with_reducible refine hD.mono ?_); (rintro e w5 ⟨rfl, hb5⟩); have ho5 := own_of (ho.alloc _) hb5; have hB5 : Below w.heap.size w w5 := (aB2 hB _).trans (hb5.mono (by have := hB.size; simp; omega)); have hg5 : wr.heap.size < w5.heap.size := (by have := hb5.size; simp at this; omega))) | (at_builtin; refine wpList_append_own _ rfl _ _ 50 rfl w.heap.size 9 i0 _ 1 16 Tryz.underlying50 hi hz0 hz1 hz2 rfl (by decide) _ M L rfl (ho5.alloc _) ⟨w5.heap.size, 0, none⟩ 1 1 [.string (str (Lib.decDigits xn))] rfl rfl ?cN ?c0 ?c1 ?c2 ?c3 ?_))
        case cN => exact news_ok [.string (str (Lib.decDigits xn))] 9 w5
        case c0 => intro u hu; simp at hu; subst hu; rfl
        case c1 => unfold maxLen; omega
        case c2 => omega
        case c3 => have h1 := hB.size; have h5 := hB5.size; simp; omega
        intro v' w3 ho' hgr _
        have hBA : Below w.heap.size w (w5.alloc (.cells #[.string (str (Lib.decDigits xn))] 9)) := aB2 hB5 _
        have hB3 : Below w.heap.size w w3 := hBA.grown hgr hBA.size (fun j hj => (ho.lt j hj).1)
        have ho3 : w3.ownsRow w.heap.size 9 1 v' (pcs (bare (T.take (k + 1)))).length (strV (pcs (bare (T.take (k + 1))))) := by rw [HSN.out, List.length_append, strV_snoc, ← HM.out, ← HL.out]; exact ho'
        clear ho' hgr ho hD
        go_wp2
        go_roundw
        case rel => exact ⟨k + 1, by omega, by go_num, ho3, hB3⟩
        case measure => first | (simp [intOf]; done) | (simp [intOf]; omega)
      · have hP : pcs [⟨4, xt, xn⟩] = [xt] := rfl
        rw [hP] at HSN
        go_wp2_with (at_builtin; refine wpList_append_own _ rfl _ _ 50 rfl w.heap.size 9 i0 _ 1 16 Tryz.underlying50 hi hz0 hz1 hz2 rfl (by decide) _ M L rfl ((ho.alloc _).alloc _) ⟨wr.heap.size + 1, 0, none⟩ 1 1 [.string (str (xt))] rfl rfl ?cN ?c0 ?c1 ?c2 ?c3 ?_)
        case cN => have hN2 := news_ok [.string (str xt)] 9 (wr.alloc (.cells #[.int .u8 4, .string (str xt), .int .u64 (xn : Int), .int .i64 (xa : Int)] 39)); rw [World.size_alloc] at hN2; exact hN2
        case c0 => intro u hu; simp at hu; subst hu; rfl
        case c1 => unfold maxLen; omega
        case c2 => omega
        case c3 => have h1 := hB.size; simp; omega
        intro v' w3 ho' hgr _
        have hBA : Below w.heap.size w ((wr.alloc (.cells #[.int .u8 4, .string (str xt), .int .u64 (xn : Int), .int .i64 (xa : Int)] 39)).alloc (.cells #[.string (str xt)] 9)) := aB2 (aB2 hB _) _
        have hB3 : Below w.heap.size w w3 := hBA.grown hgr hBA.size (fun j hj => (ho.lt j hj).1)
        have ho3 : w3.ownsRow w.heap.size 9 1 v' (pcs (bare (T.take (k + 1)))).length (strV (pcs (bare (T.take (k + 1))))) := by rw [HSN.out, List.length_append, strV_snoc, ← HM.out, ← HL.out]; exact ho'
        clear ho' hgr ho
        go_wp2
        go_roundw
        case rel => exact ⟨k + 1, by omega, by go_num, ho3, hB3⟩
        case measure => first | (simp [intOf]; done) | (simp [intOf]; omega)
      · have hP : pcs [⟨5, xt, xn⟩] = [] := rfl
        rw [hP, List.append_nil] at HSN
        go_wp2
        go_roundw
        case rel => exact ⟨k + 1, by omega, by go_num, by rw [HSN.out, ← HM.out, ← HL.out]; exact ho.alloc _, aB2 hB _⟩
        case measure => first | (simp [intOf]; done) | (simp [intOf]; omega)
    · obtain rfl : k = n1 := by omega
      have hlb : (pcs (bare T)).length ≤ 100000 := by
        have := pcs_len (bare T)
        have h2 : (bare T).length = T.length := by simp [bare]
        have := HN.out
        omega
      rw [List.take_of_length_le (by rw [HN.out]; exact Nat.le_refl _)] at ho
      have hJ := join_of_row (pcs (bare T)) ho hlb (by unfold joinT at hj; omega)
      have hjj : Lib.join (pcs (bare T)) [32] = joinT (bare T) := rfl
      rw [hjj] at hJ
      clear hjj ho
      go_wp2_with (go_at_call 20; ((with_reducible refine hJ.mono ?_); rintro e w2 ⟨rfl, hb2⟩))
      go_ret
      exact ⟨rfl, hB.trans (hb2.mono hB.size)⟩
end Go.Proofs.YtmccnoimnieldaaGreatDoor
