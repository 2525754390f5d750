/- Contract of turned: a setup whose tainted words and bytes are others. -/
import Derived.Test.YtcckgfablfgknaaGreatDoorRow
import Derived.Deep.AppendLies
namespace Go.Proofs.YtcckgfablfgknaaGreatDoor.m4
open Go.ChangeShapes Go.WideShapes Go.ChangeAt Go.RowKit
set_option linter.unusedVariables false
/-- A cell, turned. -/
def trn (b i : Nat) (c : Ce) : Ce := if c.t = true then ⟨c.a, (c.v * 3 + b + i) % 18446744073709551616, c.t⟩ else c
def trnK (b : Nat) (l : List Ce) (k : Nat) : List Ce := (List.range k).map fun i => trn b i (cg l i)
theorem trnK_len (b : Nat) (l : List Ce) (k : Nat) : (trnK b l k).length = k := by simp [trnK]
theorem trnK_snoc (b : Nat) (l : List Ce) (k : Nat) : trnK b l (k + 1) = trnK b l k ++ [trn b k (cg l k)] := by simp [trnK, List.range_succ]
theorem trnK_at (b : Nat) (l : List Ce) (k i : Nat) (h : i < k) : cg (trnK b l k) i = trn b i (cg l i) := by simp [trnK, cg, List.getD_eq_getElem?_getD, h]
theorem trnK_out (b : Nat) (l : List Ce) (k i : Nat) (h : ¬ i < k) : cg (trnK b l k) i = Ce0 := by
  unfold cg
  rw [List.getD_eq_getElem?_getD, List.getElem?_eq_none (by rw [trnK_len]; omega)]; rfl
theorem trn_wf {b i : Nat} {c : Ce} (h : c.wf) : (trn b i c).wf := by
  unfold trn; split
  · exact ⟨h.1, Nat.mod_lt _ (by omega)⟩
  · exact h
theorem trn_a (b i : Nat) (c : Ce) : (trn b i c).a = c.a := by unfold trn; split <;> rfl
theorem trn_t (b i : Nat) (c : Ce) : (trn b i c).t = c.t := by unfold trn; split <;> rfl
theorem trn_v (b i : Nat) (c : Ce) (h : c.t = false) : (trn b i c).v = c.v := by unfold trn; rw [if_neg (by rw [h]; decide)]
def ceC (c : Ce) : List Value := [.int .u8 (c.a : Nat), .int .u64 (c.v : Nat), .bool c.t]
def ceL (l : List Ce) : List Value := l.flatMap ceC
theorem ceL_snoc (l : List Ce) (c : Ce) : ceL (l ++ [c]) = ceL l ++ ceC c := by simp [ceL]
theorem ceL_at : ∀ (l : List Ce) (i t : Nat), i < l.length → t < 3 → (ceL l)[i * 3 + t]? = (ceC (cg l i))[t]?
  | [], i, t, hi, ht => absurd hi (Nat.not_lt_zero _)
  | x :: r, 0, t, hi, ht => by
    show (ceC x ++ ceL r)[0 * 3 + t]? = (ceC x)[t]?
    rw [Nat.zero_mul, Nat.zero_add, List.getElem?_append_left (by show t < 3; exact ht)]
  | x :: r, i + 1, t, hi, ht => by
    have ih := ceL_at r i t (by simpa using hi) ht
    show (ceC x ++ ceL r)[(i + 1) * 3 + t]? = (ceC (cg r i))[t]?
    rw [← ih, List.getElem?_append_right (by show 3 ≤ (i + 1) * 3 + t; omega)]
    congr 1
    show (i + 1) * 3 + t - 3 = i * 3 + t
    omega
theorem ce_of {w : World} {b : Nat} {v : Value} {l : List Ce} (h : w.ownsRow b 70 3 v l.length (ceL l)) : ∃ a c, v = .slice a l.length c ∧ CeOf w a l := by
  rcases h.2 with ⟨hv, hn⟩ | ⟨g, cap, cur, hv, hb, hg, hr⟩
  · refine ⟨none, 0, by rw [hv, hn], fun i hi => by omega⟩
  · refine ⟨some ⟨g, 0, none⟩, cap, hv, fun i hi => ⟨g, 0, rfl, ?_⟩⟩
    have key : ∀ t, t < 3 → w.cell? ⟨g, 0 + i * 3 + t, none⟩ = (ceC (cg l i))[t]? := fun t ht => by
      have e := ceL_at l i t hi ht
      obtain ⟨u, hu⟩ : ∃ u, (ceC (cg l i))[t]? = some u := ⟨_, List.getElem?_eq_getElem (by show t < 3; exact ht)⟩
      rw [hu] at e ⊢
      have := h.cells (g := g) (by rw [hv]; rfl) _ u e
      rw [addp] at this
      rw [Nat.zero_add] at this ⊢
      exact this
    exact ⟨key 0 (by omega), key 1 (by omega), key 2 (by omega)⟩
theorem infoCe : (Tryz.prog.info? 70).map (fun i => (i.zero, i.size, i.bytes)) = some (some (.agg #[.int .u8 0, .int .u64 0, .bool false]), 3, 24) := by kernel_rfl
theorem tu_mid {a b c : Value} (d : Value) {w : World} {k : Nat} (h : rowG #[a, b, c] w k) : rowG #[a, d, c] (w.setCell ⟨k, 1, none⟩ d) k := by
  have q1 : w.cell? ⟨k, 1, none⟩ = some b := h.1 1 (by simp)
  refine ⟨fun i hi => ?_, fun i => by rw [World.frozen?_setCell]; exact h.2.1 i, by rw [World.size_setCell]; exact h.2.2⟩
  rw [cell_set _ q1 i]
  have hi' : i < 3 := hi
  by_cases e : i = 1
  · subst e; rfl
  · rw [if_neg e, h.1 i hi]
    have : i = 0 ∨ i = 2 := by omega
    rcases this with rfl | rfl <;> rfl
theorem tu_last {a b c : Value} (d : Value) {w : World} {k : Nat} (h : rowG #[a, b, c] w k) : rowG #[a, b, d] (w.setCell ⟨k, 2, none⟩ d) k := by
  have q1 : w.cell? ⟨k, 2, none⟩ = some c := h.1 2 (by simp)
  refine ⟨fun i hi => ?_, fun i => by rw [World.frozen?_setCell]; exact h.2.1 i, by rw [World.size_setCell]; exact h.2.2⟩
  rw [cell_set _ q1 i]
  have hi' : i < 3 := hi
  by_cases e : i = 2
  · subst e; rfl
  · rw [if_neg e, h.1 i hi]
    have : i = 0 ∨ i = 1 := by omega
    rcases this with rfl | rfl <;> rfl
theorem own_setne' {w : World} {base size n b o : Nat} {e : TypeId} {v u : Value} {xs : List Value} (h : w.ownsRow base e size v n xs) (hb : b < base) : (w.setCell ⟨b, o, none⟩ u).ownsRow base e size v n xs := own_set h hb
theorem Ce0_w : Ce0.wf := by show (0 : Nat) < 256 ∧ (0 : Nat) < 18446744073709551616; omega
theorem tu_fst {a b c : Value} (d : Value) {w : World} {k : Nat} (h : rowG #[a, b, c] w k) : rowG #[d, b, c] (w.setCell ⟨k, 0, none⟩ d) k := by
  have q1 : w.cell? ⟨k, 0, none⟩ = some a := h.1 0 (by simp)
  refine ⟨fun i hi => ?_, fun i => by rw [World.frozen?_setCell]; exact h.2.1 i, by rw [World.size_setCell]; exact h.2.2⟩
  rw [cell_set _ q1 i]
  have hi' : i < 3 := hi
  by_cases e : i = 0
  · subst e; rfl
  · rw [if_neg e, h.1 i hi]
    have : i = 1 ∨ i = 2 := by omega
    rcases this with rfl | rfl <;> rfl
theorem res_c3 {fn : Func} {p : Tmp} (h : fn.results = #[.cell p 25]) (tmps : Array Value) (w : World) (g : Nat) (c0 c1 c2 : Value) (hp : tmps.getD p undef = .pointer (some ⟨g, 0, none⟩)) (hr : rowG #[c0, c1, c2] w g) :
    (results fn tmps).run Tryz.prog w = .ok (.agg #[c0, c1, c2]) w := by
  have hp' : tmps[p]?.getD undef = .pointer (some ⟨g, 0, none⟩) := by simpa using hp
  have h0 : w.cell? ⟨g, 0, none⟩ = some c0 := hr.1 0 (by simp)
  have h1 : w.cell? ⟨g, 1, none⟩ = some c1 := hr.1 1 (by simp)
  have h2 : w.cell? ⟨g, 2, none⟩ = some c2 := hr.1 2 (by simp)
  simp [results, h, hp', go_sem, h0, h1, h2]
theorem only_then {S T : Nat → Prop} {w w1 w2 : World} (h : Only S w w1) (k : Only T w1 w2) (hT : ∀ j, j < w.heap.size → T j → S j) : Only S w w2 :=
  ⟨k.os.trans h.os, k.tape.trans h.tape, k.output.trans h.output, Nat.le_trans h.size k.size, fun j hj hs => (k.block j (Nat.lt_of_lt_of_le hj h.size) (fun hh => hs (hT j hj hh))).trans (h.block j hj hs)⟩
theorem only_row {S : Nat → Prop} {C : Array Value} {w w' : World} {k : Nat} (ho : Only S w w') (hs : ¬ S k) (h : rowG C w k) : rowG C w' k := rowG_blk h (ho.block k h.2.2 hs) (Nat.lt_of_lt_of_le h.2.2 ho.size)
theorem news3 {w : World} {g : Nat} {c0 c1 c2 : Value} (h0 : w.cell? ⟨g, 0, none⟩ = some c0) (h1 : w.cell? ⟨g, 1, none⟩ = some c1) (h2 : w.cell? ⟨g, 2, none⟩ = some c2) : ∀ j u, [c0, c1, c2][j]? = some u → w.cell? ((⟨g, 0, none⟩ : Addr).add j) = some u := fun j u hu => by
  rw [addp, Nat.zero_add]
  match j, hu with
  | 0, hu => rw [h0]; exact hu
  | 1, hu => rw [h1]; exact hu
  | 2, hu => rw [h2]; exact hu
  | n + 3, hu => cases hu
/-- What turned answers. -/
def Su.trn (x : Su) (b : Nat) (a2 : Option Addr) (c2 : Nat) (a3 : Option Addr) (c3 : Nat) : Su := ⟨x.a1, x.c1, x.l1, a2, c2, trnK b x.l2 x.l2.length, a3, c3, trnK b x.l3 x.l3.length⟩
theorem trn_arith (v b k : Nat) : IntKind.u64.wrap (IntKind.u64.wrap (IntKind.u64.wrap ((v : Int) * 3) + (b : Int)) + (k : Int)) = (((v * 3 + b + k) % 18446744073709551616 : Nat) : Int) := by
  rw [IntKind.wrap_u64, IntKind.wrap_u64, IntKind.wrap_u64]; omega
set_option maxRecDepth 100000 in
set_option maxHeartbeats 8000000 in
theorem turned_any (x : Su) (hx : x.small) (b : Nat) (hb : b < 18446744073709551616) (w : World) (hS : SuIn w x) : Calls Tryz.prog 24 #[x.val, .int .u64 (b : Nat)] w fun e w' => (∃ a2 c2 a3 c3, e = .returned (x.trn b a2 c2 a3 c3).val ∧ SuIn w' (x.trn b a2 c2 a3 c3)) ∧ Below w.heap.size w w' := by
  obtain ⟨hx1, hx2, hx3⟩ := hx
  obtain ⟨i0, hi, hz0, hz1, hz2⟩ := info_parts infoCe
  unfold Su.val
  go_enter Tryz.func24, Tryz.ntmps24
  go_wp2
  obtain ⟨W0, hW0⟩ : ∃ W0, ((w.alloc (.cells #[.slice x.a1 x.l1.length x.c1, .slice x.a2 x.l2.length x.c2, .slice x.a3 x.l3.length x.c3] 25)).alloc (.cells #[.slice none 0 0, .slice none 0 0, .slice none 0 0] 25)).alloc (.cells #[.slice x.a1 x.l1.length x.c1, .slice none 0 0, .slice none 0 0] 25) = W0 := ⟨_, rfl⟩
  have hB0 : Below w.heap.size w W0 := by rw [← hW0]; exact aBelow (aBelow (aBelow (Below.refl _ _) _) _) _
  have hsz : W0.heap.size = w.heap.size + 3 := by rw [← hW0]; simp
  have hbs := hB0.size
  have hgy : w.heap.size + 1 + 1 < W0.heap.size := by omega
  have R0 : rowG #[.slice x.a1 x.l1.length x.c1, .slice x.a2 x.l2.length x.c2, .slice x.a3 x.l3.length x.c3] W0 w.heap.size := by rw [← hW0]; exact rowG_alloc (rowG_alloc (rowG_new _ _ _) _) _
  have R1 : rowG #[.slice none 0 0, .slice none 0 0, .slice none 0 0] W0 (w.heap.size + 1) := by rw [← hW0]; exact rowG_alloc (rowG_at _ _ _ _ (by simp)) _
  have R2 : rowG #[.slice x.a1 x.l1.length x.c1, .slice none 0 0, .slice none 0 0] W0 (w.heap.size + 1 + 1) := by rw [← hW0]; exact rowG_at _ _ _ _ (by simp)
  rw [hW0]
  clear hW0
  go_loopw [6] (fun i wr => ∃ (k : Nat) (v : Value), i = .int .i64 k ∧ k ≤ x.l2.length ∧ Only (fun j => j = w.heap.size + 1 + 1) W0 wr ∧ rowG #[.slice x.a1 x.l1.length x.c1, v, .slice none 0 0] wr (w.heap.size + 1 + 1) ∧ wr.ownsRow W0.heap.size 70 3 v k (ceL (trnK b x.l2 k))) (fun i _ => x.l2.length - (intOf i).toNat)
  case atStart => exact ⟨0, _, rfl, Nat.zero_le _, Only.refl _ _, R2, World.ownsRow_nil _ _ _ _⟩
  case round =>
    obtain ⟨k, v, rfl, hk, hO, hR, hown⟩ := hrel
    have R0r := only_row hO (by omega) R0
    have x1 := R0r.1 1 (by simp)
    have hBr : Below w.heap.size w wr := hB0.trans (hO.below (fun j hj => by omega) (by omega))
    by_cases hlt : k < x.l2.length
    · obtain ⟨bb, o, ha, c0, c1, c2⟩ := hS.i2 k hlt
      rw [ha] at x1
      clear ha
      have c0 := stay hBr c0
      have c1 := stay hBr c1
      have c2 := stay hBr c2
      have hcw := hS.w2 k
      obtain ⟨c, hc⟩ : ∃ c, cg x.l2 k = c := ⟨_, rfl⟩
      simp only [hc] at c0 c1 c2 hcw
      have hca := hcw.1
      have hcv := hcw.2
      have i0' : (0 : Int) ≤ (k : Int) := by omega
      have i1 : (k : Int) < (x.l2.length : Int) := by omega
      have y1 := hR.1 1 (by simp)
      have y2 := hR.1 2 (by simp)
      have harith := trn_arith c.v b k
      have hl0 := hR.2.2
      have hl1 := R0r.2.2
      cases hct : c.t with
      | true =>
        rw [hct] at c2
        have htr : trn b k c = ⟨c.a, (c.v * 3 + b + k) % 18446744073709551616, true⟩ := by unfold trn; rw [if_pos hct, hct]
        have nc := nwc wr #[.int .u8 (c.a : Nat), .int .u64 (((c.v : Int) * 3 + (b : Int) + (k : Int)) % 18446744073709551616), .bool true] 70
        have hs1 : (wr.alloc (.cells #[.int .u8 (c.a : Nat), .int .u64 (((c.v : Int) * 3 + (b : Int) + (k : Int)) % 18446744073709551616), .bool true] 70)).heap.size = wr.heap.size + 1 := by simp
        have nn := fun o => nwc (wr.alloc (.cells #[.int .u8 (c.a : Nat), .int .u64 (((c.v : Int) * 3 + (b : Int) + (k : Int)) % 18446744073709551616), .bool true] 70)) #[.int .u8 (c.a : Nat), .int .u64 (((c.v : Int) * 3 + (b : Int) + (k : Int)) % 18446744073709551616), .bool true] 70 o
        rw [hs1] at nn
        have n0 := nn 0
        have n1 := nn 1
        have n2 := nn 2
        have hB6 : Below wr.heap.size wr ((wr.alloc (.cells #[.int .u8 (c.a : Nat), .int .u64 (((c.v : Int) * 3 + (b : Int) + (k : Int)) % 18446744073709551616), .bool true] 70)).alloc (.cells #[.int .u8 (c.a : Nat), .int .u64 (((c.v : Int) * 3 + (b : Int) + (k : Int)) % 18446744073709551616), .bool true] 70)) := aBelow (aBelow (Below.refl _ _) _) _
        have own6 := own_of hown hB6
        have R6 := rowG_b hR hB6
        have hO6 := only_then hO (only_below (S := fun _ => False) hB6) (fun _ _ h => absurd h (fun h => h))
        have hsB := hB6.size
        have hsO := hO.size
        clear nn hs1
        go_wp2_with (at_builtin; refine wpList_append_lies _ rfl _ _ 23 rfl W0.heap.size 70 i0 _ 3 24 Tryz.underlying23 hi hz0 hz1 hz2 rfl (by decide) v k (ceL (trnK b x.l2 k)) rfl own6 ⟨wr.heap.size + 1, 0, none⟩ 1 1 [.int .u8 (c.a : Nat), .int .u64 (((c.v : Int) * 3 + (b : Int) + (k : Int)) % 18446744073709551616), .bool true] rfl rfl (news3 n0 n1 n2) (by intro u hu; simp at hu; rcases hu with rfl | rfl | rfl <;> rfl) (by decide) (by unfold maxLen; omega) (by omega) (by omega) _ rfl ?_; intro g cap w7 hown7 hgrow hat hlt7; have O7 := only_then hO6 (only_grown hgrow) (fun j hj hh => absurd hh (own_ne own6 hj)); have R7 := only_row (only_grown hgrow) (own_ne own6 (by omega)) R6; have y1 := R7.1 1 (by simp); have y2 := R7.1 2 (by simp); have z7 := R7.2.1 1)
        go_roundw
        case rel => exact ⟨k + 1, _, by go_num, by omega, O7.trans (only_one _ _ _ _), tu_mid _ R7, by rw [trnK_snoc, ceL_snoc, hc, htr]; exact own_setne' hown7 (by omega)⟩
        case measure => first | (simp [intOf]; done) | (simp [intOf]; omega)
      | false =>
        rw [hct] at c2
        have htr : trn b k c = ⟨c.a, c.v, false⟩ := by unfold trn; rw [if_neg (by rw [hct]; decide), ← hct]
        have nc := nwc wr #[.int .u8 (c.a : Nat), .int .u64 (c.v : Nat), .bool false] 70
        have hs1 : (wr.alloc (.cells #[.int .u8 (c.a : Nat), .int .u64 (c.v : Nat), .bool false] 70)).heap.size = wr.heap.size + 1 := by simp
        have nn := fun o => nwc (wr.alloc (.cells #[.int .u8 (c.a : Nat), .int .u64 (c.v : Nat), .bool false] 70)) #[.int .u8 (c.a : Nat), .int .u64 (c.v : Nat), .bool false] 70 o
        rw [hs1] at nn
        have n0 := nn 0
        have n1 := nn 1
        have n2 := nn 2
        have hB6 : Below wr.heap.size wr ((wr.alloc (.cells #[.int .u8 (c.a : Nat), .int .u64 (c.v : Nat), .bool false] 70)).alloc (.cells #[.int .u8 (c.a : Nat), .int .u64 (c.v : Nat), .bool false] 70)) := aBelow (aBelow (Below.refl _ _) _) _
        have own6 := own_of hown hB6
        have R6 := rowG_b hR hB6
        have hO6 := only_then hO (only_below (S := fun _ => False) hB6) (fun _ _ h => absurd h (fun h => h))
        have hsB := hB6.size
        have hsO := hO.size
        clear nn hs1
        go_wp2_with (at_builtin; refine wpList_append_lies _ rfl _ _ 23 rfl W0.heap.size 70 i0 _ 3 24 Tryz.underlying23 hi hz0 hz1 hz2 rfl (by decide) v k (ceL (trnK b x.l2 k)) rfl own6 ⟨wr.heap.size + 1, 0, none⟩ 1 1 [.int .u8 (c.a : Nat), .int .u64 (c.v : Nat), .bool false] rfl rfl (news3 n0 n1 n2) (by intro u hu; simp at hu; rcases hu with rfl | rfl | rfl <;> rfl) (by decide) (by unfold maxLen; omega) (by omega) (by omega) _ rfl ?_; intro g cap w7 hown7 hgrow hat hlt7; have O7 := only_then hO6 (only_grown hgrow) (fun j hj hh => absurd hh (own_ne own6 hj)); have R7 := only_row (only_grown hgrow) (own_ne own6 (by omega)) R6; have y1 := R7.1 1 (by simp); have y2 := R7.1 2 (by simp); have z7 := R7.2.1 1)
        go_roundw
        case rel => exact ⟨k + 1, _, by go_num, by omega, O7.trans (only_one _ _ _ _), tu_mid _ R7, by rw [trnK_snoc, ceL_snoc, hc, htr]; exact own_setne' hown7 (by omega)⟩
        case measure => first | (simp [intOf]; done) | (simp [intOf]; omega)
    · obtain rfl : k = x.l2.length := by omega
      clear hlt
      obtain ⟨V2, hV2⟩ : ∃ V2, V2 = v := ⟨_, rfl⟩
      subst hV2
      obtain ⟨W2, hW2⟩ : ∃ W2, W2 = wr := ⟨_, rfl⟩
      subst hW2
      have R1 := only_row hO (by omega) R1
      have hsO := hO.size
      have hgy2 : w.heap.size + 1 + 1 < W2.heap.size := by omega
      clear R0 R2 hO hB0 hgy
      have R0 := R0r
      have R2 := hR
      have hB0 := hBr
      have hown2 := hown
      clear R0r hR hBr hown
      have hbs := hB0.size
      have hgy := hgy2
      go_wp2
      go_loopw [8] (fun i wr => ∃ (k : Nat) (v : Value), i = .int .i64 k ∧ k ≤ x.l3.length ∧ Only (fun j => j = w.heap.size + 1 + 1) W2 wr ∧ rowG #[.slice x.a1 x.l1.length x.c1, V2, v] wr (w.heap.size + 1 + 1) ∧ wr.ownsRow W2.heap.size 70 3 v k (ceL (trnK b x.l3 k))) (fun i _ => x.l3.length - (intOf i).toNat)
      case atStart => exact ⟨0, _, rfl, Nat.zero_le _, Only.refl _ _, R2, World.ownsRow_nil _ _ _ _⟩
      case round =>
        obtain ⟨k, v, rfl, hk, hO, hR, hown⟩ := hrel
        have R0r := only_row hO (by omega) R0
        have x1 := R0r.1 2 (by simp)
        have hBr : Below w.heap.size w wr := hB0.trans (hO.below (fun j hj => by omega) (by omega))
        by_cases hlt : k < x.l3.length
        · obtain ⟨bb, o, ha, c0, c1, c2⟩ := hS.i3 k hlt
          rw [ha] at x1
          clear ha
          have c0 := stay hBr c0
          have c1 := stay hBr c1
          have c2 := stay hBr c2
          have hcw := hS.w3 k
          obtain ⟨c, hc⟩ : ∃ c, cg x.l3 k = c := ⟨_, rfl⟩
          simp only [hc] at c0 c1 c2 hcw
          have hca := hcw.1
          have hcv := hcw.2
          have i0' : (0 : Int) ≤ (k : Int) := by omega
          have i1 : (k : Int) < (x.l3.length : Int) := by omega
          have y1 := hR.1 1 (by simp)
          have y2 := hR.1 2 (by simp)
          have harith := trn_arith c.v b k
          have hl0 := hR.2.2
          have hl1 := R0r.2.2
          cases hct : c.t with
          | true =>
            rw [hct] at c2
            have htr : trn b k c = ⟨c.a, (c.v * 3 + b + k) % 18446744073709551616, true⟩ := by unfold trn; rw [if_pos hct, hct]
            have nc := nwc wr #[.int .u8 (c.a : Nat), .int .u64 (((c.v : Int) * 3 + (b : Int) + (k : Int)) % 18446744073709551616), .bool true] 70
            have hs1 : (wr.alloc (.cells #[.int .u8 (c.a : Nat), .int .u64 (((c.v : Int) * 3 + (b : Int) + (k : Int)) % 18446744073709551616), .bool true] 70)).heap.size = wr.heap.size + 1 := by simp
            have nn := fun o => nwc (wr.alloc (.cells #[.int .u8 (c.a : Nat), .int .u64 (((c.v : Int) * 3 + (b : Int) + (k : Int)) % 18446744073709551616), .bool true] 70)) #[.int .u8 (c.a : Nat), .int .u64 (((c.v : Int) * 3 + (b : Int) + (k : Int)) % 18446744073709551616), .bool true] 70 o
            rw [hs1] at nn
            have n0 := nn 0
            have n1 := nn 1
            have n2 := nn 2
            have hB6 : Below wr.heap.size wr ((wr.alloc (.cells #[.int .u8 (c.a : Nat), .int .u64 (((c.v : Int) * 3 + (b : Int) + (k : Int)) % 18446744073709551616), .bool true] 70)).alloc (.cells #[.int .u8 (c.a : Nat), .int .u64 (((c.v : Int) * 3 + (b : Int) + (k : Int)) % 18446744073709551616), .bool true] 70)) := aBelow (aBelow (Below.refl _ _) _) _
            have own6 := own_of hown hB6
            have R6 := rowG_b hR hB6
            have hO6 := only_then hO (only_below (S := fun _ => False) hB6) (fun _ _ h => absurd h (fun h => h))
            have hsB := hB6.size
            have hsO := hO.size
            clear nn hs1
            go_wp2_with (at_builtin; refine wpList_append_lies _ rfl _ _ 23 rfl W2.heap.size 70 i0 _ 3 24 Tryz.underlying23 hi hz0 hz1 hz2 rfl (by decide) v k (ceL (trnK b x.l3 k)) rfl own6 ⟨wr.heap.size + 1, 0, none⟩ 1 1 [.int .u8 (c.a : Nat), .int .u64 (((c.v : Int) * 3 + (b : Int) + (k : Int)) % 18446744073709551616), .bool true] rfl rfl (news3 n0 n1 n2) (by intro u hu; simp at hu; rcases hu with rfl | rfl | rfl <;> rfl) (by decide) (by unfold maxLen; omega) (by omega) (by omega) _ rfl ?_; intro g cap w7 hown7 hgrow hat hlt7; have O7 := only_then hO6 (only_grown hgrow) (fun j hj hh => absurd hh (own_ne own6 hj)); have R7 := only_row (only_grown hgrow) (own_ne own6 (by omega)) R6; have y1 := R7.1 1 (by simp); have y2 := R7.1 2 (by simp); have z7 := R7.2.1 2)
            go_roundw
            case rel => exact ⟨k + 1, _, by go_num, by omega, O7.trans (only_one _ _ _ _), tu_last _ R7, by rw [trnK_snoc, ceL_snoc, hc, htr]; exact own_setne' hown7 (by omega)⟩
            case measure => first | (simp [intOf]; done) | (simp [intOf]; omega)
          | false =>
            rw [hct] at c2
            have htr : trn b k c = ⟨c.a, c.v, false⟩ := by unfold trn; rw [if_neg (by rw [hct]; decide), ← hct]
            have nc := nwc wr #[.int .u8 (c.a : Nat), .int .u64 (c.v : Nat), .bool false] 70
            have hs1 : (wr.alloc (.cells #[.int .u8 (c.a : Nat), .int .u64 (c.v : Nat), .bool false] 70)).heap.size = wr.heap.size + 1 := by simp
            have nn := fun o => nwc (wr.alloc (.cells #[.int .u8 (c.a : Nat), .int .u64 (c.v : Nat), .bool false] 70)) #[.int .u8 (c.a : Nat), .int .u64 (c.v : Nat), .bool false] 70 o
            rw [hs1] at nn
            have n0 := nn 0
            have n1 := nn 1
            have n2 := nn 2
            have hB6 : Below wr.heap.size wr ((wr.alloc (.cells #[.int .u8 (c.a : Nat), .int .u64 (c.v : Nat), .bool false] 70)).alloc (.cells #[.int .u8 (c.a : Nat), .int .u64 (c.v : Nat), .bool false] 70)) := aBelow (aBelow (Below.refl _ _) _) _
            have own6 := own_of hown hB6
            have R6 := rowG_b hR hB6
            have hO6 := only_then hO (only_below (S := fun _ => False) hB6) (fun _ _ h => absurd h (fun h => h))
            have hsB := hB6.size
            have hsO := hO.size
            clear nn hs1
            go_wp2_with (at_builtin; refine wpList_append_lies _ rfl _ _ 23 rfl W2.heap.size 70 i0 _ 3 24 Tryz.underlying23 hi hz0 hz1 hz2 rfl (by decide) v k (ceL (trnK b x.l3 k)) rfl own6 ⟨wr.heap.size + 1, 0, none⟩ 1 1 [.int .u8 (c.a : Nat), .int .u64 (c.v : Nat), .bool false] rfl rfl (news3 n0 n1 n2) (by intro u hu; simp at hu; rcases hu with rfl | rfl | rfl <;> rfl) (by decide) (by unfold maxLen; omega) (by omega) (by omega) _ rfl ?_; intro g cap w7 hown7 hgrow hat hlt7; have O7 := only_then hO6 (only_grown hgrow) (fun j hj hh => absurd hh (own_ne own6 hj)); have R7 := only_row (only_grown hgrow) (own_ne own6 (by omega)) R6; have y1 := R7.1 1 (by simp); have y2 := R7.1 2 (by simp); have z7 := R7.2.1 2)
            go_roundw
            case rel => exact ⟨k + 1, _, by go_num, by omega, O7.trans (only_one _ _ _ _), tu_last _ R7, by rw [trnK_snoc, ceL_snoc, hc, htr]; exact own_setne' hown7 (by omega)⟩
            case measure => first | (simp [intOf]; done) | (simp [intOf]; omega)
        · obtain rfl : k = x.l3.length := by omega
          clear hlt
          have R1 := only_row hO (by omega) R1
          have hown2 := own_only hown2 hO (fun j hj e => by have := (hown2.lt j hj).1; omega)
          obtain ⟨a2, k2, e2, ce2⟩ := ce_of (l := trnK b x.l2 x.l2.length) (by rw [trnK_len]; exact hown2)
          obtain ⟨a3, k3, e3, ce3⟩ := ce_of (l := trnK b x.l3 x.l3.length) (by rw [trnK_len]; exact hown)
          have f0 := hR.1 0 (by simp)
          have f1 := hR.1 1 (by simp)
          have f2 := hR.1 2 (by simp)
          have f3 := R1.1 0 (by simp)
          have f4 := R1.1 1 (by simp)
          have f5 := R1.1 2 (by simp)
          have z0 := R1.2.1 0
          have z1 := R1.2.1 1
          have z2 := R1.2.1 2
          have hl0 := hR.2.2
          have hl1 := R1.2.2
          clear R2 R0r
          go_wp2
          have RF := tu_last (.slice a3 (trnK b x.l3 x.l3.length).length k3) (tu_mid (.slice a2 (trnK b x.l2 x.l2.length).length k2) (tu_fst (.slice x.a1 x.l1.length x.c1) R1))
          have hBf : Below w.heap.size w ((wr.setCell ⟨w.heap.size + 1, 0, none⟩ (.slice x.a1 x.l1.length x.c1)).setCell ⟨w.heap.size + 1, 1, none⟩ (.slice a2 (trnK b x.l2 x.l2.length).length k2)) := sBelow (sBelow (hB0.trans (hO.below (fun j hj => by omega) (by omega))) (by omega)) (by omega)
          have hBf := sBelow (o := 2) (v := .slice a3 (trnK b x.l3 x.l3.length).length k3) hBf (show w.heap.size ≤ w.heap.size + 1 by omega)
          have F2 := own_setne' (b := w.heap.size + 1) (o := 2) (u := .slice a3 (trnK b x.l3 x.l3.length).length k3) (own_setne' (b := w.heap.size + 1) (o := 1) (u := .slice a2 (trnK b x.l2 x.l2.length).length k2) (own_setne' (b := w.heap.size + 1) (o := 0) (u := .slice x.a1 x.l1.length x.c1) hown2 (by omega)) (by omega)) (by omega)
          have F3 := own_setne' (b := w.heap.size + 1) (o := 2) (u := .slice a3 (trnK b x.l3 x.l3.length).length k3) (own_setne' (b := w.heap.size + 1) (o := 1) (u := .slice a2 (trnK b x.l2 x.l2.length).length k2) (own_setne' (b := w.heap.size + 1) (o := 0) (u := .slice x.a1 x.l1.length x.c1) hown (by omega)) (by omega)) (by omega)
          generalize ((wr.setCell ⟨w.heap.size + 1, 0, none⟩ (.slice x.a1 x.l1.length x.c1)).setCell ⟨w.heap.size + 1, 1, none⟩ (.slice a2 (trnK b x.l2 x.l2.length).length k2)).setCell ⟨w.heap.size + 1, 2, none⟩ (.slice a3 (trnK b x.l3 x.l3.length).length k3) = Wf at *
          obtain ⟨a2', k2', e2', ce2'⟩ := ce_of (l := trnK b x.l2 x.l2.length) (by rw [trnK_len]; exact F2)
          obtain ⟨a3', k3', e3', ce3'⟩ := ce_of (l := trnK b x.l3 x.l3.length) (by rw [trnK_len]; exact F3)
          rw [e2] at e2'
          rw [e3] at e3'
          obtain ⟨rfl, _, _⟩ := Value.slice.inj e2'
          obtain ⟨rfl, _, _⟩ := Value.slice.inj e3'
          have hSF : SuIn Wf (x.trn b a2 k2 a3 k3) := ⟨(hS.of hBf).i1, ce2', ce3', hS.w1, fun i => by
            show (cg (trnK b x.l2 x.l2.length) i).wf
            by_cases h : i < x.l2.length
            · rw [trnK_at _ _ _ _ h]; exact trn_wf (hS.w2 i)
            · rw [trnK_out _ _ _ _ h]; exact Ce0_w, fun i => by
            show (cg (trnK b x.l3 x.l3.length) i).wf
            by_cases h : i < x.l3.length
            · rw [trnK_at _ _ _ _ h]; exact trn_wf (hS.w3 i)
            · rw [trnK_out _ _ _ _ h]; exact Ce0_w⟩
          refine bodyPost_ret (res_c3 rfl _ _ (w.heap.size + 1) _ _ _ rfl RF) rfl ⟨⟨a2, k2, a3, k3, rfl, hSF⟩, hBf⟩

end Go.Proofs.YtcckgfablfgknaaGreatDoor.m4
