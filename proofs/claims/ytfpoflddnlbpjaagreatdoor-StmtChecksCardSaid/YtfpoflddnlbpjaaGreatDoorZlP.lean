/- The reader of programs in memory; its smallest parts. -/
import Derived.Test.YtfpoflddnlbpjaaGreatDoorZhP
import Derived.Test.YtfpoflddnlbpjaaGreatDoorZiP
import Derived.Test.YtfpoflddnlbpjaaGreatDoorZjP
import Derived.WalkSmall
import Derived.Test.YtfpoflddnlbpjaaGreatDoorZkP
namespace Go.Proofs.YtfpoflddnlbpjaaGreatDoor
open Go.ChangeShapes Go.WideShapes Go.ChangeAt Go.RowKit
set_option linter.unusedVariables false
def readsM : Array MapEntry := #[⟨.string (str wLet), .func (.func 97) #[] #[], 0⟩, ⟨.string (str wBuf), .func (.func 98) #[] #[], 1⟩, ⟨.string (str wIf), .func (.func 99) #[] #[], 2⟩, ⟨.string (str wWhile), .func (.func 100) #[] #[], 3⟩, ⟨.string (str wFor), .func (.func 101) #[] #[], 4⟩, ⟨.string (str wView), .func (.func 102) #[] #[], 5⟩, ⟨.string (str wEdit), .func (.func 103) #[] #[], 6⟩, ⟨.string (str wMove), .func (.func 104) #[] #[], 7⟩, ⟨.string (str wOpen), .func (.func 105) #[] #[], 8⟩, ⟨.string (str wCall), .func (.func 106) #[] #[], 9⟩, ⟨.string (str wSeal), .func (.func 107) #[] #[], 10⟩]
structure IsRs (w : World) (rb mb : Nat) (v : Value) (T : List (Tk × Int)) (p d n : Nat) : Prop where
  c0 : w.cell? ⟨rb, 0, none⟩ = some v
  c1 : w.cell? ⟨rb, 1, none⟩ = some (.int .i64 (p : Int))
  c2 : w.cell? ⟨rb, 2, none⟩ = some (.map (some mb))
  c3 : w.cell? ⟨rb, 3, none⟩ = some (.int .i64 (d : Int))
  c4 : w.cell? ⟨rb, 4, none⟩ = some (.int .i64 (n : Int))
  f : ∀ k, w.frozen? ⟨rb, k, none⟩ = false
  row : RowZ w v T
  ne : ¬ ob v T = some rb
  mp : w.heap[mb]? = some (.map readsM 11)
  nm : ¬ mb = rb
  len : T.length ≤ 16385
  lt : p < T.length
  fin : ∃ a, T[T.length - 1]? = some (⟨5, [], 0⟩, a)
  hd : d ≤ 41
  hn : n ≤ 400
  ng : ¬ GB rb
  tb : Tb w
section
variable {w w' : World} {rb mb : Nat} {v : Value} {T : List (Tk × Int)} {p d n : Nat}
theorem IsRs.rl (h : IsRs w rb mb v T p d n) : rb < w.heap.size := World.block_lt_of_cell? w _ h.c0
theorem IsRs.ml (h : IsRs w rb mb v T p d n) : mb < w.heap.size := by
  rcases Nat.lt_or_ge mb w.heap.size with hh | hh
  · exact hh
  · have := h.mp; rw [Array.getElem?_eq_none hh] at this; cases this
theorem IsRs.only {S : Nat → Prop} (h : IsRs w rb mb v T p d n) (ho : Only S w w') (h1 : ¬ S rb) (h2 : ∀ j, ob v T = some j → ¬ S j) (h3 : ¬ S mb) (h4 : ∀ j, GB j → ¬ S j) : IsRs w' rb mb v T p d n :=
  { h with c0 := ho.cell h1 h.c0, c1 := ho.cell h1 h.c1, c2 := ho.cell h1 h.c2, c3 := ho.cell h1 h.c3, c4 := ho.cell h1 h.c4, f := (fun k => ((ho.frozen (a := ⟨rb, k, none⟩) h.rl h1).trans (h.f k))), row := h.row.onlyo ho h2, mp := (ho.block mb h.ml h3).trans h.mp, tb := h.tb.only ho h4 }
theorem IsRs.of (h : IsRs w rb mb v T p d n) (hb : Below w.heap.size w w') : IsRs w' rb mb v T p d n :=
  h.only (S := fun _ => False) (only_below hb) (fun h => h) (fun _ _ h => h) (fun h => h) (fun _ _ h => h)
theorem IsRs.drewN (h : IsRs w rb mb v T p d n) (k : Nat) : IsRs (w.drewN k) rb mb v T p d n := h.of (bdN (Below.refl _ _) k)
theorem IsRs.set (h : IsRs w rb mb v T p d n) {o : Nat} {x : Value} {p' d' n' : Nat} (c0 : ¬ o = 0) (c1 : (w.setCell ⟨rb, o, none⟩ x).cell? ⟨rb, 1, none⟩ = some (.int .i64 (p' : Int))) (c2 : ¬ o = 2) (c3 : (w.setCell ⟨rb, o, none⟩ x).cell? ⟨rb, 3, none⟩ = some (.int .i64 (d' : Int))) (c4 : (w.setCell ⟨rb, o, none⟩ x).cell? ⟨rb, 4, none⟩ = some (.int .i64 (n' : Int)))
    (lt : p' < T.length) (hd : d' ≤ 41) (hn : n' ≤ 400) : IsRs (w.setCell ⟨rb, o, none⟩ x) rb mb v T p' d' n' :=
  have ho := only_one w rb o x
  { c0 := cset h.c0 (fun e => c0 e.symm), c1 := c1, c2 := cset h.c2 (fun e => c2 e.symm), c3 := c3, c4 := c4, f := (fun k => by rw [World.frozen?_setCell]; exact h.f k), row := h.row.onlyo ho (fun j hj e => h.ne (by rw [hj, e])), ne := h.ne, mp := (ho.block mb h.ml h.nm).trans h.mp, nm := h.nm, len := h.len, lt := lt, fin := h.fin, hd := hd, hn := hn, ng := h.ng, tb := h.tb.only ho (fun j hj (e : j = rb) => h.ng (by rw [← e]; exact hj)) }
theorem IsRs.setP (h : IsRs w rb mb v T p d n) {q : Nat} (hq : q < T.length) : IsRs (w.setCell ⟨rb, 1, none⟩ (.int .i64 (q : Int))) rb mb v T q d n :=
  h.set (by omega) (cset_same h.c1) (by omega) (cset h.c3 (by omega)) (cset h.c4 (by omega)) hq h.hd h.hn
theorem IsRs.setD (h : IsRs w rb mb v T p d n) {q : Nat} (hq : q ≤ 41) : IsRs (w.setCell ⟨rb, 3, none⟩ (.int .i64 (q : Int))) rb mb v T p q n :=
  h.set (by omega) (cset h.c1 (by omega)) (by omega) (cset_same h.c3) (cset h.c4 (by omega)) h.lt hq h.hn
theorem IsRs.setN (h : IsRs w rb mb v T p d n) {q : Nat} (hq : q ≤ 400) : IsRs (w.setCell ⟨rb, 4, none⟩ (.int .i64 (q : Int))) rb mb v T p d q :=
  h.set (by omega) (cset h.c1 (by omega)) (by omega) (cset h.c3 (by omega)) (cset_same h.c4) h.lt h.hd hq
structure TokAt (w : World) (rb : Nat) (T : List (Tk × Int)) (p : Nat) (t : Tk) (z : Int) : Prop where
  at_ : ∃ (b o N c : Nat), w.cell? ⟨rb, 0, none⟩ = some (.slice (some ⟨b, o, none⟩) N c) ∧ p < N ∧ N ≤ 16385 ∧ b < w.heap.size ∧ w.cell? ⟨b, o + p * 4, none⟩ = some (.int .u8 (t.k : Int)) ∧ w.cell? ⟨b, o + p * 4 + 1, none⟩ = some (.string (str t.t)) ∧ w.cell? ⟨b, o + p * 4 + 2, none⟩ = some (.int .u64 (t.n : Int)) ∧ w.cell? ⟨b, o + p * 4 + 3, none⟩ = some (.int .i64 z)
  txt_ : txt (bareZ T) p = t.t
  knd_ : knd (bareZ T) p = t.k
  plc_ : placeZ T (p : Int) = z
theorem IsRs.tok (h : IsRs w rb mb v T p d n) : ∃ t z, TokAt w rb T p t z := by
  obtain ⟨ma, c, hv, hc⟩ := h.row.row
  obtain ⟨b, o, rfl, hl, q0, q1, q2, q3⟩ := hc p h.lt
  have c0 := h.c0
  rw [hv] at c0
  have hlt := h.lt
  have hb : (bareZ T).getD p t0 = T[p].1 := by
    unfold bareZ
    rw [List.getD_eq_getElem?_getD, List.getElem?_map, List.getElem?_eq_getElem h.lt]
    rfl
  refine ⟨T[p].1, T[p].2, ⟨⟨b, o, T.length, c, c0, h.lt, h.len, hl, q0, q1, q2, q3⟩, by unfold txt; rw [hb], by unfold knd; rw [hb], ?_⟩⟩
  unfold placeZ
  rw [if_neg (by omega), Int.toNat_natCast, Nat.min_eq_left (by have := h.lt; omega), List.getD_eq_getElem?_getD, List.getElem?_eq_getElem h.lt]
  rfl
theorem IsRs.more (h : IsRs w rb mb v T p d n) (hh : txt (bareZ T) p ≠ [] ∨ knd (bareZ T) p ≠ 5) : p + 1 < T.length := by
  rcases Nat.lt_or_ge (p + 1) T.length with h1 | h1
  · exact h1
  · exfalso
    obtain ⟨a, ha⟩ := h.fin
    have hp : p = T.length - 1 := by have := h.lt; omega
    have hb : (bareZ T).getD p t0 = ⟨5, [], 0⟩ := by
      unfold bareZ
      rw [List.getD_eq_getElem?_getD, List.getElem?_map, hp, ha]
      rfl
    rcases hh with hh | hh
    · exact hh (by unfold txt; rw [hb])
    · exact hh (by unfold knd; rw [hb])
end
def Flt (T : List (Tk × Int)) (e p : Nat) : Ending := .panicked [{ v := .iface 36 (.agg #[.int .i64 (placeZ T (p : Int)), .int .i64 (e : Int)]), recovered := false }]
theorem str_eq (a b : List UInt8) : ((str a).toList == (str b).toList) = decide (a = b) := by
  rw [ByteArray.toList_eq, ByteArray.toList_eq, str_list, str_list]
  by_cases h : a = b
  · subst h; simp
  · simp [h]
set_option maxRecDepth 100000 in
set_option maxHeartbeats 2000000 in
theorem nx_any {w : World} {rb mb : Nat} {v : Value} {T : List (Tk × Int)} {p d n : Nat} (h : IsRs w rb mb v T p d n) (s : List UInt8) :
    Calls Tryz.prog 108 #[.pointer (some ⟨rb, 0, none⟩), .string (str s)] w fun e w' => e = .returned (.bool (isP (bareZ T) s p)) ∧ ∃ k, w' = w.drewN k := by
  obtain ⟨t, z, ht⟩ := h.tok
  obtain ⟨b, o, N, c, c0, hpN, hN, hb, q0, q1, q2, q3⟩ := ht.at_
  have c1 := h.c1
  have hrl := h.rl
  unfold isP
  rw [ht.txt_]
  clear ht h
  go_enter Tryz.func108, Tryz.ntmps108
  go_wp2
  go_quiet (fail)
  go_wp2
  go_ret
  exact ⟨congrArg (fun b => Ending.returned (.bool b)) (str_eq _ _), _, rfl⟩
set_option maxRecDepth 100000 in
set_option maxHeartbeats 2000000 in
theorem stop_any {w : World} {rb mb : Nat} {v : Value} {T : List (Tk × Int)} {p d n : Nat} (h : IsRs w rb mb v T p d n) (c : Nat) (ci : Int) (hci : ci = (c : Int)) :
    Calls Tryz.prog 109 #[.pointer (some ⟨rb, 0, none⟩), .int .i64 ci] w fun e w' => e = Flt T c p ∧ ∃ k, w' = w.drewN k := by
  obtain ⟨t, z, ht⟩ := h.tok
  obtain ⟨b, o, N, cc, c0, hpN, hN, hb, q0, q1, q2, q3⟩ := ht.at_
  have c1 := h.c1
  have hrl := h.rl
  unfold Flt
  rw [ht.plc_, ← hci]
  clear ht h hci
  go_enter Tryz.func109, Tryz.ntmps109
  go_wp2
  have hFi : ∀ w', w' = w.drew → w'.cell? ⟨rb, 0, none⟩ = some (.slice (some ⟨b, o, none⟩) N cc) ∧ w'.cell? ⟨rb, 1, none⟩ = some (.int .i64 (p : Int)) ∧ w'.cell? ⟨b, o + p * 4 + 3, none⟩ = some (.int .i64 z) ∧ rb < w'.heap.size ∧ b < w'.heap.size := by
    rintro w' rfl
    exact ⟨c0, c1, q3, hrl, hb⟩
  refine region_K (fun w' => w' = w.drew) (by kernel_rfl) ?_
  refine wpAnyK_take (i := 0) rfl (by kernel_rfl) (by kernel_rfl) (by kernel_rfl) (fun _ _ _ _ h => h) rfl (fun K hK => ?_)
  apply Exists.intro
  refine ⟨Or.inl ⟨by kernel_rfl, fun w' hf => ?_⟩, ?_⟩
  · obtain ⟨k0, k1, k2, k3, k4⟩ := hFi _ hf
    go_simp
    try exact rfl
  go_simp
  refine hK _ ?_
  clear hK K
  refine wpAnyK_take (i := 1) rfl (by kernel_rfl) (by kernel_rfl) (by kernel_rfl) (fun _ _ _ _ h => h) rfl (fun K hK => ?_)
  apply Exists.intro
  refine ⟨Or.inl ⟨by kernel_rfl, fun w' hf => ?_⟩, ?_⟩
  · obtain ⟨k0, k1, k2, k3, k4⟩ := hFi _ hf
    go_simp
    try exact rfl
  go_simp
  refine hK _ ?_
  clear hK K
  refine wpAnyK_take (i := 2) rfl (by kernel_rfl) (by kernel_rfl) (by kernel_rfl) (fun _ _ _ _ h => h) rfl (fun K hK => ?_)
  apply Exists.intro
  refine ⟨Or.inl ⟨by kernel_rfl, fun w' hf => ?_⟩, ?_⟩
  · obtain ⟨k0, k1, k2, k3, k4⟩ := hFi _ hf
    go_simp
    try exact rfl
  go_simp
  refine hK _ ?_
  clear hK K
  refine wpAnyK_take (i := 3) rfl (by kernel_rfl) (by kernel_rfl) (by kernel_rfl) (fun _ _ _ _ h => h) rfl (fun K hK => ?_)
  apply Exists.intro
  refine ⟨Or.inl ⟨by kernel_rfl, fun w' hf => ?_⟩, ?_⟩
  · obtain ⟨k0, k1, k2, k3, k4⟩ := hFi _ hf
    go_simp
    try exact rfl
  go_simp
  refine hK _ ?_
  clear hK K
  refine wpAnyK_take (i := 4) rfl (by kernel_rfl) (by kernel_rfl) (by kernel_rfl) (fun _ _ _ _ h => h) rfl (fun K hK => ?_)
  apply Exists.intro
  refine ⟨Or.inl ⟨by kernel_rfl, fun w' hf => ?_⟩, ?_⟩
  · obtain ⟨k0, k1, k2, k3, k4⟩ := hFi _ hf
    go_simp
    try exact rfl
  go_simp
  refine hK _ ?_
  clear hK K
  refine wpAnyK_take (i := 5) rfl (by kernel_rfl) (by kernel_rfl) (by kernel_rfl) (fun _ _ _ _ h => h) rfl (fun K hK => ?_)
  apply Exists.intro
  refine ⟨Or.inl ⟨by kernel_rfl, fun w' hf => ?_⟩, ?_⟩
  · obtain ⟨k0, k1, k2, k3, k4⟩ := hFi _ hf
    go_simp
    try exact rfl
  go_simp
  refine hK _ ?_
  clear hK K
  refine wpAnyK_take (i := 6) rfl (by kernel_rfl) (by kernel_rfl) (by kernel_rfl) (fun _ _ _ _ h => h) rfl (fun K hK => ?_)
  apply Exists.intro
  refine ⟨Or.inl ⟨by kernel_rfl, fun w' hf => ?_⟩, ?_⟩
  · obtain ⟨k0, k1, k2, k3, k4⟩ := hFi _ hf
    go_simp
    try exact rfl
  go_simp
  refine hK _ ?_
  clear hK K
  refine wpAnyK_take (i := 7) rfl (by kernel_rfl) (by kernel_rfl) (by kernel_rfl) (fun _ _ _ _ h => h) rfl (fun K hK => ?_)
  apply Exists.intro
  refine ⟨Or.inl ⟨by kernel_rfl, fun w' hf => ?_⟩, ?_⟩
  · obtain ⟨k0, k1, k2, k3, k4⟩ := hFi _ hf
    go_simp
    try exact rfl
  go_simp
  refine hK _ ?_
  clear hK K
  refine wpAnyK_take (i := 8) rfl (by kernel_rfl) (by kernel_rfl) (by kernel_rfl) (fun _ _ _ _ h => h) rfl (fun K hK => ?_)
  apply Exists.intro
  refine ⟨Or.inl ⟨by kernel_rfl, fun w' hf => ?_⟩, ?_⟩
  · obtain ⟨k0, k1, k2, k3, k4⟩ := hFi _ hf
    go_simp
    try exact rfl
  go_simp
  refine hK _ ?_
  clear hK K
  refine wpAnyK_take (i := 9) rfl (by kernel_rfl) (by kernel_rfl) (by kernel_rfl) (fun _ _ _ _ h => h) rfl (fun K hK => ?_)
  apply Exists.intro
  refine ⟨Or.inl ⟨by kernel_rfl, fun w' hf => ?_⟩, ?_⟩
  · obtain ⟨k0, k1, k2, k3, k4⟩ := hFi _ hf
    go_simp
    try exact rfl
  go_simp
  refine hK _ ?_
  clear hK K
  refine wpAnyK_take (i := 10) rfl (by kernel_rfl) (by kernel_rfl) (by kernel_rfl) (fun _ _ _ _ h => h) rfl (fun K hK => ?_)
  apply Exists.intro
  refine ⟨Or.inl ⟨by kernel_rfl, fun w' hf => ?_⟩, ?_⟩
  · obtain ⟨k0, k1, k2, k3, k4⟩ := hFi _ hf
    go_simp
    try exact rfl
  go_simp
  refine hK _ ?_
  clear hK K
  refine wpAnyK_take (i := 11) rfl (by kernel_rfl) (by kernel_rfl) (by kernel_rfl) (fun _ _ _ _ h => h) rfl (fun K hK => ?_)
  apply Exists.intro
  refine ⟨Or.inl ⟨by kernel_rfl, fun w' hf => ?_⟩, ?_⟩
  · obtain ⟨k0, k1, k2, k3, k4⟩ := hFi _ hf
    go_simp
    try exact rfl
  go_simp
  refine hK _ ?_
  clear hK K
  refine wpAnyK_take (i := 12) rfl (by kernel_rfl) (by kernel_rfl) (by kernel_rfl) (fun _ _ _ _ h => h) rfl (fun K hK => ?_)
  apply Exists.intro
  refine ⟨Or.inl ⟨by kernel_rfl, fun w' hf => ?_⟩, ?_⟩
  · obtain ⟨k0, k1, k2, k3, k4⟩ := hFi _ hf
    go_simp
    try exact rfl
  go_simp
  refine hK _ ?_
  clear hK K
  refine wpAnyK_take (i := 13) rfl (by kernel_rfl) (by kernel_rfl) (by kernel_rfl) (fun _ _ _ _ h => h) rfl (fun K hK => ?_)
  apply Exists.intro
  refine ⟨Or.inl ⟨by kernel_rfl, fun w' hf => ?_⟩, ?_⟩
  · obtain ⟨k0, k1, k2, k3, k4⟩ := hFi _ hf
    go_simp
    try exact rfl
  go_simp
  refine hK _ ?_
  clear hK K
  refine wpAnyK_one (k := 14) (by kernel_rfl) ?_
  refine wpOp_step rfl (fun K hK => ?_)
  go_simp
  exact ⟨rfl, rfl, 1, rfl⟩
def RP {α : Type} (V : World → World → Value → α → Prop) (w : World) (rb mb : Nat) (v : Value) (T : List (Tk × Int)) (d : Nat) (r : Rz α) (e : Ending) (w' : World) : Prop :=
  Only (fun j => j = rb) w w' ∧ match r with
    | .er c q => e = Flt T c q
    | .ok x q m => IsRs w' rb mb v T q d m ∧ ∃ u, e = .returned u ∧ V w w' u x
theorem RP.er {α : Type} {V : World → World → Value → α → Prop} {w : World} {rb mb : Nat} {v : Value} {T : List (Tk × Int)} {d : Nat} {c q : Nat} {w' : World} (h : Only (fun j => j = rb) w w') : RP V w rb mb v T d (.er c q : Rz α) (Flt T c q) w' := ⟨h, rfl⟩
theorem RP.ok {α : Type} {V : World → World → Value → α → Prop} {w : World} {rb mb : Nat} {v : Value} {T : List (Tk × Int)} {d : Nat} {x : α} {q m : Nat} {u : Value} {w' : World} (h : Only (fun j => j = rb) w w') (h1 : IsRs w' rb mb v T q d m) (h2 : V w w' u x) : RP V w rb mb v T d (.ok x q m) (.returned u) w' := ⟨h, h1, u, rfl, h2⟩
def VU (w w' : World) (u : Value) (_ : Unit) : Prop := u = .tuple #[]
def VN (w w' : World) (u : Value) (x : List UInt8) : Prop := u = .string (str x)
set_option maxRecDepth 100000 in
set_option maxHeartbeats 2000000 in
theorem has_any {w : World} {rb mb : Nat} {v : Value} {T : List (Tk × Int)} {p d n : Nat} (h : IsRs w rb mb v T p d n) (s : List UInt8) (hs : s ≠ []) :
    Calls Tryz.prog 133 #[.pointer (some ⟨rb, 0, none⟩), .string (str s)] w fun e w' => e = .returned (.bool (isP (bareZ T) s p)) ∧ Only (fun j => j = rb) w w' ∧ IsRs w' rb mb v T (beP (bareZ T) s p) d n := by
  have hN := nx_any h s
  have c1 := h.c1
  have hf := h.f
  have hrl := h.rl
  have hw : IntKind.i64.wrap ((p : Int) + 1) = ((p + 1 : Nat) : Int) := by rw [IntKind.wrap_i64]; have := h.lt; have := h.len; omega
  have HH := Lib.hid h
  clear h
  unfold isP beP at *
  by_cases hc : txt (bareZ T) p = s
  · rw [if_pos hc]
    simp only [hc, decide_true] at hN ⊢
    have hm := HH.out.more (.inl (by rw [hc]; exact hs))
    go_enter Tryz.func133, Tryz.ntmps133
    go_wp2_with (go_at_call 108; ((with_reducible refine hN.mono ?_); (rintro e w1 ⟨rfl, k, rfl⟩)))
    go_ret
    exact ⟨rfl, (only_drew (Only.refl _ _) k).setCell rfl, (HH.out.drewN k).setP hm⟩
  · rw [if_neg hc]
    simp only [hc, decide_false] at hN ⊢
    go_enter Tryz.func133, Tryz.ntmps133
    go_wp2_with (go_at_call 108; ((with_reducible refine hN.mono ?_); (rintro e w1 ⟨rfl, k, rfl⟩)))
    go_ret
    exact ⟨rfl, only_drew (Only.refl _ _) k, HH.out.drewN k⟩
set_option maxRecDepth 100000 in
set_option maxHeartbeats 2000000 in
theorem take_any {w : World} {rb mb : Nat} {v : Value} {T : List (Tk × Int)} {p d n : Nat} (h : IsRs w rb mb v T p d n) (s : List UInt8) (hs : s ≠ []) :
    Calls Tryz.prog 136 #[.pointer (some ⟨rb, 0, none⟩), .string (str s)] w (RP VU w rb mb v T d (takR (bareZ T) s p n)) := by
  have hN := has_any h s hs
  unfold takR
  unfold isP beP at hN
  by_cases hc : txt (bareZ T) p = s
  · rw [if_pos hc]
    rw [if_pos hc] at hN
    simp only [hc, decide_true] at hN
    clear h
    go_enter Tryz.func136, Tryz.ntmps136
    go_wp2_with (go_at_call 133; ((with_reducible refine hN.mono ?_); (rintro e w1 ⟨rfl, hO, hR⟩)))
    go_end0
    exact .ok hO hR rfl
  · rw [if_neg hc]
    rw [if_neg hc] at hN
    simp only [hc, decide_false] at hN
    clear h
    go_enter Tryz.func136, Tryz.ntmps136
    go_wp2_with (first | (go_at_call 133; ((with_reducible refine hN.mono ?_); (rintro e w1 ⟨rfl, hO, hR⟩))) | (go_at_call 109; ((with_reducible refine (stop_any hR 7 7 rfl).mono ?_); (rintro e w2 ⟨he, k, rfl⟩); unfold Flt at he; subst he)))
    exact ⟨rfl, .er (only_drew hO k)⟩
end Go.Proofs.YtfpoflddnlbpjaaGreatDoor

/- Contracts of the reader of programs: an expression. -/
namespace Go.Proofs.YtfpoflddnlbpjaaGreatDoor
open Go.ChangeShapes Go.WideShapes Go.ChangeAt Go.RowKit
set_option linter.unusedVariables false
def VX (w w' : World) (u : Value) (x : Xp) : Prop := IsE (fun b => w.heap.size ≤ b ∧ b < w'.heap.size) w' u x
theorem IsRs.newer {w w1 w2 : World} {rb mb : Nat} {v : Value} {T : List (Tk × Int)} {p d n p' d' n' : Nat} (h0 : IsRs w rb mb v T p d n) (h : IsRs w1 rb mb v T p' d' n') (ho : Only (fun j => w.heap.size ≤ j) w1 w2) : IsRs w2 rb mb v T p' d' n' :=
  h.only ho (fun e => by have := h0.rl; omega) (fun j hj e => by have := h0.row.ob_lt hj; omega) (fun e => by have := h0.ml; omega) (fun j hj e => by have := h0.tb.lt hj; omega)
theorem only_set {S : Nat → Prop} {w w' : World} (h : Only S w w') (b o : Nat) (x : Value) (hs : S b) : Only S w (w'.setCell ⟨b, o, none⟩ x) := h.setCell hs
theorem os1 {b : Nat} {w w' : World} (h : Only (fun j => j = b) w w') (o : Nat) (x : Value) : Only (fun j => j = b) w (w'.setCell ⟨b, o, none⟩ x) := h.setCell (S := fun j => j = b) (b := b) rfl
theorem or1 (b : Nat) (w : World) : Only (fun j => j = b) w w := Only.refl _ w
theorem ob1 {w w' : World} (b : Nat) (h : Below w.heap.size w w') : Only (fun j => j = b) w w' := only_below h
theorem only_alloc {S : Nat → Prop} {w w' : World} (h : Only S w w') (o : Obj) : Only S w (w'.alloc o) := h.trans (only_below (aB (Below.refl _ _) o))
theorem row_set {C : Array Value} {w : World} {k i : Nat} (hi : i < C.size) (u : Value) (h : rowG C w k) : rowG (C.set! i u) (w.setCell ⟨k, i, none⟩ u) k := by
  refine ⟨fun j hj => ?_, fun j => by rw [World.frozen?_setCell]; exact h.2.1 j, by rw [World.size_setCell]; exact h.2.2⟩
  have hj' : j < C.size := by simpa using hj
  by_cases e : j = i
  · subst e
    rw [cset_same (u := C[j]) (by rw [h.1 j hj']; simp [hj'])]
    simp [hj']
  · rw [World.cell?_setCell_other (h := by intro h; injection h with _ h2 _; exact e h2.symm), h.1 j hj']
    simp [Ne.symm e]
theorem row5_all {C : Array Value} {w : World} {k : Nat} (hs : C.size = 5) (c0 c1 c2 c3 c4 : Value) (h : rowG C w k) : rowG #[c0, c1, c2, c3, c4] (((((w.setCell ⟨k, 0, none⟩ c0).setCell ⟨k, 1, none⟩ c1).setCell ⟨k, 2, none⟩ c2).setCell ⟨k, 3, none⟩ c3).setCell ⟨k, 4, none⟩ c4) k := by
  obtain ⟨l⟩ := C
  match l, hs with
  | [x0, x1, x2, x3, x4], _ =>
    have := row_set (i := 4) (by simp) c4 (row_set (i := 3) (by simp) c3 (row_set (i := 2) (by simp) c2 (row_set (i := 1) (by simp) c1 (row_set (i := 0) (by simp) c0 h))))
    simpa using this
theorem tell_no5 : ∀ (d : Nat) (x : Xp), mayB d x = true → ∀ t ∈ tellF d x, t.k ≠ 5 := by
  intro d
  induction d with
  | zero => intro x h; simp [mayB] at h
  | succ d ih =>
    intro x h t ht
    obtain ⟨k, n, s, o, l⟩ := x
    rw [mayB, Bool.and_eq_true] at h
    obtain ⟨hf, hl⟩ := h
    have hal := List.all_eq_true.1 hl
    have hg : ∀ i, i < l.length → ∀ t ∈ tellF d (l.getD i x0), t.k ≠ 5 := fun i hi t ht => ih _ (by rw [List.getD_eq_getElem?_getD, List.getElem?_eq_getElem hi]; exact hal _ (List.getElem_mem hi)) t ht
    rcases fit_k hf with rfl | rfl | rfl | rfl | rfl
    · simp [tellF] at ht; subst ht; simp
    · simp [tellF] at ht; subst ht; simp [nmT]
    · obtain ⟨rfl, rfl, ho, hm⟩ := fit3 hf
      have e : tellF (d + 1) (.mk 3 0 [] o l) = sg [40] :: (tellF d (l.getD 0 x0) ++ sg (opS o) :: (tellF d (l.getD 1 x0) ++ [sg [41]])) := rfl
      rw [e] at ht
      simp only [List.mem_cons, List.mem_append] at ht
      rcases ht with rfl | ht | rfl | ht | rfl | ht
      · simp [sg]
      · exact hg 0 (by omega) t ht
      · simp [sg]
      · exact hg 1 (by omega) t ht
      · simp [sg]
      · cases ht
    · simp [tellF] at ht; rcases ht with rfl | rfl <;> simp [nmT, sg]
    · obtain ⟨rfl, hn, rfl, hm⟩ := fit5 hf
      have e : tellF (d + 1) (.mk 5 0 s 0 l) = nmT s :: sg [91] :: (tellF d (l.getD 0 x0) ++ [sg [93]]) := rfl
      rw [e] at ht
      simp only [List.mem_cons, List.mem_append] at ht
      rcases ht with rfl | rfl | ht | rfl | ht
      · simp [nmT]
      · simp [sg]
      · exact hg 0 (by omega) t ht
      · simp [sg]
      · cases ht
theorem rdE_fin {T : List (Tk × Int)} (hl : T.length ≤ 16385) (hfin : ∃ a, T[T.length - 1]? = some (⟨5, [], 0⟩, a)) {p q : Nat} {x : Xp} (h : rdE 40 (bareZ T) p = .ok x q) : q < T.length := by
  obtain ⟨h1, h2, h3, h4⟩ := tell_rd _ _ _ _ _ h
  have hL : (bareZ T).length = T.length := by simp [bareZ]
  rcases Nat.lt_or_ge q T.length with hq | hq
  · exact hq
  · exfalso
    have hq' : q = T.length := by omega
    obtain ⟨a, ha⟩ := hfin
    have hlast : (bareZ T)[T.length - 1]? = some ⟨5, [], 0⟩ := by unfold bareZ; rw [List.getElem?_map, ha]; rfl
    have hm : (⟨5, [], 0⟩ : Tk) ∈ tellF 40 x := by
      rw [← h4]
      refine List.mem_of_getElem? (i := T.length - 1 - p) ?_
      rw [List.getElem?_take, if_pos (by omega), List.getElem?_drop, show p + (T.length - 1 - p) = T.length - 1 by omega]
      exact hlast
    exact tell_no5 40 x h1 _ hm rfl

set_option maxRecDepth 100000 in
set_option maxHeartbeats 4000000 in
theorem expr_er {w : World} {rb mb : Nat} {v : Value} {T : List (Tk × Int)} {p d n : Nat} (h : IsRs w rb mb v T p d n) (c q : Nat) (hR : rdE 40 (bareZ T) p = .er c q) :
    Calls Tryz.prog 137 #[.pointer (some ⟨rb, 0, none⟩)] w (RP VX w rb mb v T d (.er c q)) := by
  have hRd : ∀ W, Below w.heap.size w W → Calls Tryz.prog 161 #[v, .int .i64 (p : Int)] W fun e w' => e = .returned (.tuple #[zX, .int .i64 0, .iface 36 (.agg #[.int .i64 (placeZ T (q : Int)), .int .i64 (c : Int)])]) ∧ Below W.heap.size W w' := fun W hB => by
    have hr := h.of hB
    have := read_any hr.row (by have := hr.len; omega) hr.tb p (by have := hr.lt; have := hr.len; omega)
    rw [hR] at this
    exact this
  have c0 := h.c0
  have c1 := h.c1
  have hrl := h.rl
  have hE : ∀ w', Below w.heap.size w w' → RP VX w rb mb v T d (.er c q) (Flt T c q) w' := fun w' hB => .er (only_below hB)
  unfold Flt zX at *
  clear h hR
  go_enter Tryz.func137, Tryz.ntmps137
  go_wp2
  have hFi : ∀ w', Below w.heap.size w w' → w'.cell? ⟨rb, 0, none⟩ = some v ∧ w'.cell? ⟨rb, 1, none⟩ = some (.int .i64 (p : Int)) ∧ rb < w'.heap.size := fun w' hB => ⟨stay hB c0, stay hB c1, Nat.lt_of_lt_of_le hrl hB.size⟩
  have hF0 : Below w.heap.size w (w.alloc (.cells #[.int .u8 0, .int .u64 0, .string ⟨#[]⟩, .int .u8 0, .slice none 0 0] 52)).drew := bdN (aB (Below.refl _ _) _) 1
  have hFB : Below w.heap.size w ((w.alloc (.cells #[.int .u8 0, .int .u64 0, .string ⟨#[]⟩, .int .u8 0, .slice none 0 0] 52)).alloc (.cells #[.int .u8 0, .int .u64 0, .string ⟨#[]⟩, .int .u8 0, .slice none 0 0] 52)).drew := bdN (aB (aB (Below.refl _ _) _) _) 1
  refine region_K (fun w' => Below w.heap.size w w') (by kernel_rfl) ?_

  refine wpAnyK_take (i := 0) rfl (by kernel_rfl) (by kernel_rfl) (by kernel_rfl) (fun _ _ _ _ h => h) hF0 (fun K hK => ?_)
  apply Exists.intro
  refine ⟨Or.inl ⟨by kernel_rfl, fun w' hf => ?_⟩, ?_⟩
  · obtain ⟨k0, k1, kl⟩ := hFi _ hf
    go_simp
    try exact rfl
  go_simp
  refine hK _ ?_
  clear hK K
  refine wpAnyK_take (i := 1) rfl (by kernel_rfl) (by kernel_rfl) (by kernel_rfl) (fun _ _ _ _ h => h) hF0 (fun K hK => ?_)
  apply Exists.intro
  refine ⟨Or.inl ⟨by kernel_rfl, fun w' hf => ?_⟩, ?_⟩
  · obtain ⟨k0, k1, kl⟩ := hFi _ hf
    go_simp
    try exact rfl
  go_simp
  refine hK _ ?_
  clear hK K
  refine wpAnyK_take (i := 2) rfl (by kernel_rfl) (by kernel_rfl) (by kernel_rfl) (fun _ _ _ _ h => h) hF0 (fun K hK => ?_)
  apply Exists.intro
  refine ⟨Or.inl ⟨by kernel_rfl, fun w' hf => ?_⟩, ?_⟩
  · obtain ⟨k0, k1, kl⟩ := hFi _ hf
    go_simp
    try exact rfl
  go_simp
  refine hK _ ?_
  clear hK K
  refine wpAnyK_take (i := 3) rfl (by kernel_rfl) (by kernel_rfl) (by kernel_rfl) (fun _ _ _ _ h => h) hF0 (fun K hK => ?_)
  apply Exists.intro
  refine ⟨Or.inl ⟨by kernel_rfl, fun w' hf => ?_⟩, ?_⟩
  · obtain ⟨k0, k1, kl⟩ := hFi _ hf
    go_simp
    try exact rfl
  go_simp
  refine hK _ ?_
  clear hK K
  refine wpAnyK_take (i := 4) rfl (by kernel_rfl) (by kernel_rfl) (by kernel_rfl) (fun _ _ _ _ h => h) hF0 (fun K hK => ?_)
  apply Exists.intro
  refine ⟨Or.inl ⟨by kernel_rfl, fun w' hf => ?_⟩, ?_⟩
  · obtain ⟨k0, k1, kl⟩ := hFi _ hf
    go_simp
    try exact rfl
  go_simp
  refine hK _ ?_
  clear hK K
  refine wpAnyK_take (i := 5) rfl (by kernel_rfl) (by kernel_rfl) (by kernel_rfl) (fun _ _ _ _ h => h) hF0 (fun K hK => ?_)
  apply Exists.intro
  refine ⟨Or.inl ⟨by kernel_rfl, fun w' hf => ?_⟩, ?_⟩
  · obtain ⟨k0, k1, kl⟩ := hFi _ hf
    go_simp
    try exact rfl
  go_simp
  refine hK _ ?_
  clear hK K
  refine wpAnyK_take (i := 6) rfl (by kernel_rfl) (by kernel_rfl) (by kernel_rfl) (fun _ _ _ _ h => h) hF0 (fun K hK => ?_)
  apply Exists.intro
  refine ⟨Or.inl ⟨by kernel_rfl, fun w' hf => ?_⟩, ?_⟩
  · obtain ⟨k0, k1, kl⟩ := hFi _ hf
    go_simp
    try exact rfl
  go_simp
  refine hK _ ?_
  clear hK K
  refine wpAnyK_take (i := 7) rfl (by kernel_rfl) (by kernel_rfl) (by kernel_rfl) (fun _ _ _ _ h => h) hF0 (fun K hK => ?_)
  apply Exists.intro
  refine ⟨Or.inl ⟨by kernel_rfl, fun w' hf => ?_⟩, ?_⟩
  · obtain ⟨k0, k1, kl⟩ := hFi _ hf
    go_simp
    try exact rfl
  go_simp
  refine hK _ ?_
  clear hK K
  refine wpAnyK_two (k1 := 8) (k2 := 13) (by kernel_rfl) ?_ ?_
  · refine wpOp_step rfl (fun K hK => ?_)
    go_simp
    go_at_call 161
    with_reducible refine (hRd _ hF0).mono ?_
    rintro e w1 ⟨rfl, hb0⟩
    have hb1 := hF0.trans (hb0.mono hF0.size)
    refine hK _ _ ⟨hb1, ?_⟩
    clear hK K
    refine wpAnyK_take (i := 9) rfl (by kernel_rfl) (by kernel_rfl) (by kernel_rfl) (fun _ _ _ _ h => h) hb1 (fun K hK => ?_)
    apply Exists.intro
    refine ⟨Or.inl ⟨by kernel_rfl, fun w' hf => ?_⟩, ?_⟩
    · obtain ⟨k0, k1, kl⟩ := hFi _ hf
      go_simp
      try exact rfl
    go_simp
    refine hK _ ?_
    clear hK K
    refine wpAnyK_take (i := 10) rfl (by kernel_rfl) (by kernel_rfl) (by kernel_rfl) (fun _ _ _ _ h => h) hb1 (fun K hK => ?_)
    apply Exists.intro
    refine ⟨Or.inl ⟨by kernel_rfl, fun w' hf => ?_⟩, ?_⟩
    · obtain ⟨k0, k1, kl⟩ := hFi _ hf
      go_simp
      try exact rfl
    go_simp
    refine hK _ ?_
    clear hK K
    refine wpAnyK_take (i := 11) rfl (by kernel_rfl) (by kernel_rfl) (by kernel_rfl) (fun _ _ _ _ h => h) hb1 (fun K hK => ?_)
    apply Exists.intro
    refine ⟨Or.inl ⟨by kernel_rfl, fun w' hf => ?_⟩, ?_⟩
    · obtain ⟨k0, k1, kl⟩ := hFi _ hf
      go_simp
      try exact rfl
    go_simp
    refine hK _ ?_
    clear hK K
    refine wpAnyK_take (i := 12) rfl (by kernel_rfl) (by kernel_rfl) (by kernel_rfl) (fun _ _ _ _ h => h) hb1 (fun K hK => ?_)
    apply Exists.intro
    refine ⟨Or.inl ⟨by kernel_rfl, fun w' hf => ?_⟩, ?_⟩
    · obtain ⟨k0, k1, kl⟩ := hFi _ hf
      go_simp
      try exact rfl
    go_simp
    refine hK _ ?_
    clear hK K
    refine wpAnyK_one (k := 13) (by kernel_rfl) ?_
    refine wpOp_step rfl (fun K hK => ?_)
    go_simp
    refine hK _ _ ⟨(aB hb1 _), ?_⟩
    clear hK K
    refine wpAnyK_one (k := 14) (by kernel_rfl) ?_
    refine wpOp_step rfl (fun K hK => ?_)
    go_simp
    refine hK _ _ ⟨(aB hb1 _), ?_⟩
    clear hK K
    refine wpAnyK_take (i := 15) rfl (by kernel_rfl) (by kernel_rfl) (by kernel_rfl) (fun _ _ _ _ h => h) (aB hb1 _) (fun K hK => ?_)
    apply Exists.intro
    refine ⟨Or.inl ⟨by kernel_rfl, fun w' hf => ?_⟩, ?_⟩
    · obtain ⟨k0, k1, kl⟩ := hFi _ hf
      go_simp
      try exact rfl
    go_simp
    refine hK _ ?_
    clear hK K
    refine wpAnyK_take (i := 16) rfl (by kernel_rfl) (by kernel_rfl) (by kernel_rfl) (fun _ _ _ _ h => h) (aB hb1 _) (fun K hK => ?_)
    apply Exists.intro
    refine ⟨Or.inl ⟨by kernel_rfl, fun w' hf => ?_⟩, ?_⟩
    · obtain ⟨k0, k1, kl⟩ := hFi _ hf
      go_simp
      try exact rfl
    go_simp
    refine hK _ ?_
    clear hK K
    refine wpAnyK_done (by kernel_rfl) ?_
    go_wp2
    exact ⟨rfl, hE _ (aB hb1 _)⟩
  · refine wpOp_step rfl (fun K hK => ?_)
    go_simp
    refine hK _ _ ⟨hFB, ?_⟩
    clear hK K
    refine wpAnyK_one (k := 8) (by kernel_rfl) ?_
    refine wpOp_step rfl (fun K hK => ?_)
    go_simp
    go_at_call 161
    with_reducible refine (hRd _ hFB).mono ?_
    rintro e w1 ⟨rfl, hb0⟩
    have hb1 := hFB.trans (hb0.mono hFB.size)
    have hrw := rowG_b (X := ((w.alloc (.cells #[.int .u8 0, .int .u64 0, .string ⟨#[]⟩, .int .u8 0, .slice none 0 0] 52)).alloc (.cells #[.int .u8 0, .int .u64 0, .string ⟨#[]⟩, .int .u8 0, .slice none 0 0] 52)).drew) (rowG_at #[.int .u8 0, .int .u64 0, .string ⟨#[]⟩, .int .u8 0, .slice none 0 0] 52 (w.alloc (.cells #[.int .u8 0, .int .u64 0, .string ⟨#[]⟩, .int .u8 0, .slice none 0 0] 52)) (w.heap.size + 1) (by simp)) hb0
    have y0 := hrw.1 0 (by simp)
    have y1 := hrw.1 1 (by simp)
    have y2 := hrw.1 2 (by simp)
    have y3 := hrw.1 3 (by simp)
    have y4 := hrw.1 4 (by simp)
    have yf := hrw.2.1
    have yl := hrw.2.2
    refine hK _ _ ⟨hb1, ?_⟩
    clear hK K
    refine wpAnyK_take (i := 9) rfl (by kernel_rfl) (by kernel_rfl) (by kernel_rfl) (fun _ _ _ _ h => h) hb1 (fun K hK => ?_)
    apply Exists.intro
    refine ⟨Or.inl ⟨by kernel_rfl, fun w' hf => ?_⟩, ?_⟩
    · obtain ⟨k0, k1, kl⟩ := hFi _ hf
      go_simp
      try exact rfl
    go_simp
    refine hK _ ?_
    clear hK K
    refine wpAnyK_take (i := 10) rfl (by kernel_rfl) (by kernel_rfl) (by kernel_rfl) (fun _ _ _ _ h => h) hb1 (fun K hK => ?_)
    apply Exists.intro
    refine ⟨Or.inl ⟨by kernel_rfl, fun w' hf => ?_⟩, ?_⟩
    · obtain ⟨k0, k1, kl⟩ := hFi _ hf
      go_simp
      try exact rfl
    go_simp
    refine hK _ ?_
    clear hK K
    refine wpAnyK_take (i := 11) rfl (by kernel_rfl) (by kernel_rfl) (by kernel_rfl) (fun _ _ _ _ h => h) hb1 (fun K hK => ?_)
    apply Exists.intro
    refine ⟨Or.inl ⟨by kernel_rfl, fun w' hf => ?_⟩, ?_⟩
    · obtain ⟨k0, k1, kl⟩ := hFi _ hf
      go_simp
      try exact rfl
    go_simp
    refine hK _ ?_
    clear hK K
    refine wpAnyK_take (i := 12) rfl (by kernel_rfl) (by kernel_rfl) (by kernel_rfl) (fun _ _ _ _ h => h) hb1 (fun K hK => ?_)
    apply Exists.intro
    refine ⟨Or.inl ⟨by kernel_rfl, fun w' hf => ?_⟩, ?_⟩
    · obtain ⟨k0, k1, kl⟩ := hFi _ hf
      go_simp
      try exact rfl
    go_simp
    refine hK _ ?_
    clear hK K
    refine wpAnyK_one (k := 14) (by kernel_rfl) ?_
    refine wpOp_step rfl (fun K hK => ?_)
    go_simp
    refine hK _ _ ⟨((((((hb1.setCell (by simp) _).setCell (by simp) _).setCell (by simp) _).setCell (by simp) _).setCell (by simp) _)), ?_⟩
    clear hK K
    refine wpAnyK_take (i := 15) rfl (by kernel_rfl) (by kernel_rfl) (by kernel_rfl) (fun _ _ _ _ h => h) ((((((hb1.setCell (by simp) _).setCell (by simp) _).setCell (by simp) _).setCell (by simp) _).setCell (by simp) _)) (fun K hK => ?_)
    apply Exists.intro
    refine ⟨Or.inl ⟨by kernel_rfl, fun w' hf => ?_⟩, ?_⟩
    · obtain ⟨k0, k1, kl⟩ := hFi _ hf
      go_simp
      try exact rfl
    go_simp
    refine hK _ ?_
    clear hK K
    refine wpAnyK_take (i := 16) rfl (by kernel_rfl) (by kernel_rfl) (by kernel_rfl) (fun _ _ _ _ h => h) ((((((hb1.setCell (by simp) _).setCell (by simp) _).setCell (by simp) _).setCell (by simp) _).setCell (by simp) _)) (fun K hK => ?_)
    apply Exists.intro
    refine ⟨Or.inl ⟨by kernel_rfl, fun w' hf => ?_⟩, ?_⟩
    · obtain ⟨k0, k1, kl⟩ := hFi _ hf
      go_simp
      try exact rfl
    go_simp
    refine hK _ ?_
    clear hK K
    refine wpAnyK_done (by kernel_rfl) ?_
    go_wp2
    exact ⟨rfl, hE _ ((((((hb1.setCell (by simp) _).setCell (by simp) _).setCell (by simp) _).setCell (by simp) _).setCell (by simp) _))⟩
set_option maxRecDepth 100000 in
set_option maxHeartbeats 4000000 in
theorem expr_ok {w : World} {rb mb : Nat} {v : Value} {T : List (Tk × Int)} {p d n : Nat} (h : IsRs w rb mb v T p d n) (x : Xp) (q : Nat) (hR : rdE 40 (bareZ T) p = .ok x q) :
    Calls Tryz.prog 137 #[.pointer (some ⟨rb, 0, none⟩)] w (RP VX w rb mb v T d (.ok x q n)) := by
  have hRd : ∀ W, Below w.heap.size w W → Calls Tryz.prog 161 #[v, .int .i64 (p : Int)] W fun e w' => (∃ (k nn : Int) (s : ByteArray) (o : Int) (mk : Option Addr) (m cap : Nat), e = .returned (.tuple #[.agg #[.int .u8 k, .int .u64 nn, .string s, .int .u8 o, .slice mk m cap], .int .i64 (q : Int), .nilIface]) ∧ IsE (fun b => W.heap.size ≤ b ∧ b < w'.heap.size) w' (.agg #[.int .u8 k, .int .u64 nn, .string s, .int .u8 o, .slice mk m cap]) x) ∧ Below W.heap.size W w' := fun W hB => by
    have hr := h.of hB
    have := read_any hr.row (by have := hr.len; omega) hr.tb p (by have := hr.lt; have := hr.len; omega)
    rw [hR] at this
    exact this
  have hq := rdE_fin h.len h.fin hR
  have c0 := h.c0
  have c1 := h.c1
  have hf := h.f
  have hrl := h.rl
  have HH := Lib.hid h
  clear h hR
  go_enter Tryz.func137, Tryz.ntmps137
  go_wp2
  have hFi : ∀ w', Below w.heap.size w w' → w'.cell? ⟨rb, 0, none⟩ = some v ∧ w'.cell? ⟨rb, 1, none⟩ = some (.int .i64 (p : Int)) ∧ rb < w'.heap.size := fun w' hB => ⟨stay hB c0, stay hB c1, Nat.lt_of_lt_of_le hrl hB.size⟩
  have hFf : ∀ w', Below w.heap.size w w' → ∀ k, w'.frozen? ⟨rb, k, none⟩ = false := fun w' hB k => (hB.frozen (p := ⟨rb, k, none⟩) hrl).trans (hf k)
  have hF0 : Below w.heap.size w (w.alloc (.cells #[.int .u8 0, .int .u64 0, .string ⟨#[]⟩, .int .u8 0, .slice none 0 0] 52)).drew := bdN (aB (Below.refl _ _) _) 1
  have hFB : Below w.heap.size w ((w.alloc (.cells #[.int .u8 0, .int .u64 0, .string ⟨#[]⟩, .int .u8 0, .slice none 0 0] 52)).alloc (.cells #[.int .u8 0, .int .u64 0, .string ⟨#[]⟩, .int .u8 0, .slice none 0 0] 52)).drew := bdN (aB (aB (Below.refl _ _) _) _) 1
  refine region_K (fun w' => Below w.heap.size w w') (by kernel_rfl) ?_

  refine wpAnyK_take (i := 0) rfl (by kernel_rfl) (by kernel_rfl) (by kernel_rfl) (fun _ _ _ _ h => h) hF0 (fun K hK => ?_)
  apply Exists.intro
  refine ⟨Or.inl ⟨by kernel_rfl, fun w' hf => ?_⟩, ?_⟩
  · obtain ⟨k0, k1, kl⟩ := hFi _ hf
    go_simp
    try exact rfl
  go_simp
  refine hK _ ?_
  clear hK K
  refine wpAnyK_take (i := 1) rfl (by kernel_rfl) (by kernel_rfl) (by kernel_rfl) (fun _ _ _ _ h => h) hF0 (fun K hK => ?_)
  apply Exists.intro
  refine ⟨Or.inl ⟨by kernel_rfl, fun w' hf => ?_⟩, ?_⟩
  · obtain ⟨k0, k1, kl⟩ := hFi _ hf
    go_simp
    try exact rfl
  go_simp
  refine hK _ ?_
  clear hK K
  refine wpAnyK_take (i := 2) rfl (by kernel_rfl) (by kernel_rfl) (by kernel_rfl) (fun _ _ _ _ h => h) hF0 (fun K hK => ?_)
  apply Exists.intro
  refine ⟨Or.inl ⟨by kernel_rfl, fun w' hf => ?_⟩, ?_⟩
  · obtain ⟨k0, k1, kl⟩ := hFi _ hf
    go_simp
    try exact rfl
  go_simp
  refine hK _ ?_
  clear hK K
  refine wpAnyK_take (i := 3) rfl (by kernel_rfl) (by kernel_rfl) (by kernel_rfl) (fun _ _ _ _ h => h) hF0 (fun K hK => ?_)
  apply Exists.intro
  refine ⟨Or.inl ⟨by kernel_rfl, fun w' hf => ?_⟩, ?_⟩
  · obtain ⟨k0, k1, kl⟩ := hFi _ hf
    go_simp
    try exact rfl
  go_simp
  refine hK _ ?_
  clear hK K
  refine wpAnyK_take (i := 4) rfl (by kernel_rfl) (by kernel_rfl) (by kernel_rfl) (fun _ _ _ _ h => h) hF0 (fun K hK => ?_)
  apply Exists.intro
  refine ⟨Or.inl ⟨by kernel_rfl, fun w' hf => ?_⟩, ?_⟩
  · obtain ⟨k0, k1, kl⟩ := hFi _ hf
    go_simp
    try exact rfl
  go_simp
  refine hK _ ?_
  clear hK K
  refine wpAnyK_take (i := 5) rfl (by kernel_rfl) (by kernel_rfl) (by kernel_rfl) (fun _ _ _ _ h => h) hF0 (fun K hK => ?_)
  apply Exists.intro
  refine ⟨Or.inl ⟨by kernel_rfl, fun w' hf => ?_⟩, ?_⟩
  · obtain ⟨k0, k1, kl⟩ := hFi _ hf
    go_simp
    try exact rfl
  go_simp
  refine hK _ ?_
  clear hK K
  refine wpAnyK_take (i := 6) rfl (by kernel_rfl) (by kernel_rfl) (by kernel_rfl) (fun _ _ _ _ h => h) hF0 (fun K hK => ?_)
  apply Exists.intro
  refine ⟨Or.inl ⟨by kernel_rfl, fun w' hf => ?_⟩, ?_⟩
  · obtain ⟨k0, k1, kl⟩ := hFi _ hf
    go_simp
    try exact rfl
  go_simp
  refine hK _ ?_
  clear hK K
  refine wpAnyK_take (i := 7) rfl (by kernel_rfl) (by kernel_rfl) (by kernel_rfl) (fun _ _ _ _ h => h) hF0 (fun K hK => ?_)
  apply Exists.intro
  refine ⟨Or.inl ⟨by kernel_rfl, fun w' hf => ?_⟩, ?_⟩
  · obtain ⟨k0, k1, kl⟩ := hFi _ hf
    go_simp
    try exact rfl
  go_simp
  refine hK _ ?_
  clear hK K
  refine wpAnyK_two (k1 := 8) (k2 := 13) (by kernel_rfl) ?_ ?_
  · refine wpOp_step rfl (fun K hK => ?_)
    go_simp
    go_at_call 161
    with_reducible refine (hRd _ hF0).mono ?_
    rintro e w1 ⟨⟨k, nn, s, o, mk, m, cap, rfl, hE⟩, hb0⟩
    have hb1 := hF0.trans (hb0.mono hF0.size)
    have hrs := rowG_b (X := (w.alloc (.cells #[.int .u8 0, .int .u64 0, .string ⟨#[]⟩, .int .u8 0, .slice none 0 0] 52)).drew) ((rowG_at #[.int .u8 0, .int .u64 0, .string ⟨#[]⟩, .int .u8 0, .slice none 0 0] 52 w w.heap.size rfl)) hb0
    have z0 := hrs.1 0 (by simp)
    have z1 := hrs.1 1 (by simp)
    have z2 := hrs.1 2 (by simp)
    have z3 := hrs.1 3 (by simp)
    have z4 := hrs.1 4 (by simp)
    have zf := hrs.2.1
    have zl := hrs.2.2
    refine hK _ _ ⟨hb1, ?_⟩
    clear hK K
    refine wpAnyK_take (i := 9) rfl (by kernel_rfl) (by kernel_rfl) (by kernel_rfl) (fun _ _ _ _ h => h) hb1 (fun K hK => ?_)
    apply Exists.intro
    refine ⟨Or.inl ⟨by kernel_rfl, fun w' hf => ?_⟩, ?_⟩
    · obtain ⟨k0, k1, kl⟩ := hFi _ hf
      go_simp
      try exact rfl
    go_simp
    refine hK _ ?_
    clear hK K
    refine wpAnyK_take (i := 10) rfl (by kernel_rfl) (by kernel_rfl) (by kernel_rfl) (fun _ _ _ _ h => h) hb1 (fun K hK => ?_)
    apply Exists.intro
    refine ⟨Or.inl ⟨by kernel_rfl, fun w' hf => ?_⟩, ?_⟩
    · obtain ⟨k0, k1, kl⟩ := hFi _ hf
      go_simp
      try exact rfl
    go_simp
    refine hK _ ?_
    clear hK K
    refine wpAnyK_take (i := 11) rfl (by kernel_rfl) (by kernel_rfl) (by kernel_rfl) (fun _ _ _ _ h => h) hb1 (fun K hK => ?_)
    apply Exists.intro
    refine ⟨Or.inl ⟨by kernel_rfl, fun w' hf => ?_⟩, ?_⟩
    · obtain ⟨k0, k1, kl⟩ := hFi _ hf
      go_simp
      try exact rfl
    go_simp
    refine hK _ ?_
    clear hK K
    refine wpAnyK_take (i := 12) rfl (by kernel_rfl) (by kernel_rfl) (by kernel_rfl) (fun _ _ _ _ h => h) hb1 (fun K hK => ?_)
    apply Exists.intro
    refine ⟨Or.inl ⟨by kernel_rfl, fun w' hf => ?_⟩, ?_⟩
    · obtain ⟨k0, k1, kl⟩ := hFi _ hf
      go_simp
      try exact rfl
    go_simp
    refine hK _ ?_
    clear hK K
    refine wpAnyK_one (k := 13) (by kernel_rfl) ?_
    refine wpOp_step rfl (fun K hK => ?_)
    go_simp
    refine hK _ _ ⟨(aB hb1 _), ?_⟩
    clear hK K
    refine wpAnyK_one (k := 14) (by kernel_rfl) ?_
    refine wpOp_step rfl (fun K hK => ?_)
    go_simp
    refine hK _ _ ⟨(aB hb1 _), ?_⟩
    clear hK K
    refine wpAnyK_take (i := 15) rfl (by kernel_rfl) (by kernel_rfl) (by kernel_rfl) (fun _ _ _ _ h => h) (aB hb1 _) (fun K hK => ?_)
    apply Exists.intro
    refine ⟨Or.inl ⟨by kernel_rfl, fun w' hf => ?_⟩, ?_⟩
    · obtain ⟨k0, k1, kl⟩ := hFi _ hf
      go_simp
      try exact rfl
    go_simp
    refine hK _ ?_
    clear hK K
    refine wpAnyK_take (i := 16) rfl (by kernel_rfl) (by kernel_rfl) (by kernel_rfl) (fun _ _ _ _ h => h) (aB hb1 _) (fun K hK => ?_)
    apply Exists.intro
    refine ⟨Or.inl ⟨by kernel_rfl, fun w' hf => ?_⟩, ?_⟩
    · obtain ⟨k0, k1, kl⟩ := hFi _ hf
      go_simp
      try exact rfl
    go_simp
    refine hK _ ?_
    clear hK K
    refine wpAnyK_done (by kernel_rfl) ?_
    have hB2 : Below w.heap.size w (w1.alloc (.cells #[.int .u8 k, .int .u64 nn, .string s, .int .u8 o, .slice mk m cap] 52)) := aB hb1 _
    have hX := rowG_at #[.int .u8 k, .int .u64 nn, .string s, .int .u8 o, .slice mk m cap] 52 w1 w1.heap.size rfl
    have hgl : w.heap.size < w1.heap.size := (by have := hb0.size; simp at this; omega)
    have hS := rowG_alloc hrs (.cells #[.int .u8 k, .int .u64 nn, .string s, .int .u8 o, .slice mk m cap] 52)
    have hE2 := hE.of (aB (Below.refl _ _) (.cells #[.int .u8 k, .int .u64 nn, .string s, .int .u8 o, .slice mk m cap] 52))
    have hsz : w1.heap.size ≤ (w1.alloc (.cells #[.int .u8 k, .int .u64 nn, .string s, .int .u8 o, .slice mk m cap] 52)).heap.size := by simp
    obtain ⟨W2, hW2⟩ : ∃ W, w1.alloc (.cells #[.int .u8 k, .int .u64 nn, .string s, .int .u8 o, .slice mk m cap] 52) = W := ⟨_, rfl⟩
    rw [hW2] at hB2 hX hS hE2 hsz ⊢
    clear hW2
    obtain ⟨d0, d1, dl⟩ := hFi _ hB2
    have df := hFf _ hB2
    have u0 := hX.1 0 (by simp)
    have u1 := hX.1 1 (by simp)
    have u2 := hX.1 2 (by simp)
    have u3 := hX.1 3 (by simp)
    have u4 := hX.1 4 (by simp)
    have r0 := hS.1 0 (by simp)
    have r1 := hS.1 1 (by simp)
    have r2 := hS.1 2 (by simp)
    have r3 := hS.1 3 (by simp)
    have r4 := hS.1 4 (by simp)
    have rf := hS.2.1
    have rl := hS.2.2
    have ul := hX.2.2
    clear hRd hFi hFf hF0 hFB
    go_wp2
    have hRs := (HH.out.of hB2).setP hq
    have hOn : Only (fun j => w.heap.size ≤ j) (W2.setCell ⟨rb, 1, none⟩ (.int .i64 (q : Int))) ((((((W2.setCell ⟨rb, 1, none⟩ (.int .i64 (q : Int))).setCell ⟨w.heap.size, 0, none⟩ (.int .u8 k)).setCell ⟨w.heap.size, 1, none⟩ (.int .u64 nn)).setCell ⟨w.heap.size, 2, none⟩ (.string s)).setCell ⟨w.heap.size, 3, none⟩ (.int .u8 o)).setCell ⟨w.heap.size, 4, none⟩ (.slice mk m cap)) := only_set (only_set (only_set (only_set (only_set (Only.refl _ _) _ _ _ (Nat.le_refl _)) _ _ _ (Nat.le_refl _)) _ _ _ (Nat.le_refl _)) _ _ _ (Nat.le_refl _)) _ _ _ (Nat.le_refl _)
    have hE3 := hE2.only (w' := (((((W2.setCell ⟨rb, 1, none⟩ (.int .i64 (q : Int))).setCell ⟨w.heap.size, 0, none⟩ (.int .u8 k)).setCell ⟨w.heap.size, 1, none⟩ (.int .u64 nn)).setCell ⟨w.heap.size, 2, none⟩ (.string s)).setCell ⟨w.heap.size, 3, none⟩ (.int .u8 o)).setCell ⟨w.heap.size, 4, none⟩ (.slice mk m cap)) (S := fun j => j = rb ∨ j = w.heap.size) (only_set (only_set (only_set (only_set (only_set (only_set (Only.refl _ _) _ _ _ (.inl rfl)) _ _ _ (.inr rfl)) _ _ _ (.inr rfl)) _ _ _ (.inr rfl)) _ _ _ (.inr rfl)) _ _ _ (.inr rfl)) (fun b hb e => by have := hb.1; simp at this; omega)
    refine bodyPost_ret (res_xp rfl _ _ w.heap.size _ _ _ _ _ rfl (row5_all rfl _ _ _ _ _ (rowG_other _ hS (by omega)))) rfl ?_
    exact .ok ((os1 (ob1 rb hB2) _ _).old hOn (fun j hj => .inr hj)) (HH.out.newer hRs hOn) (hE3.mono (fun b hb => ⟨by have := hb.1; simp at this; omega, by have := hb.2; simp only [World.size_setCell]; omega⟩))
  · refine wpOp_step rfl (fun K hK => ?_)
    go_simp
    refine hK _ _ ⟨hFB, ?_⟩
    clear hK K
    refine wpAnyK_one (k := 8) (by kernel_rfl) ?_
    refine wpOp_step rfl (fun K hK => ?_)
    go_simp
    go_at_call 161
    with_reducible refine (hRd _ hFB).mono ?_
    rintro e w1 ⟨⟨k, nn, s, o, mk, m, cap, rfl, hE⟩, hb0⟩
    have hb1 := hFB.trans (hb0.mono hFB.size)
    have hrw := rowG_b (X := ((w.alloc (.cells #[.int .u8 0, .int .u64 0, .string ⟨#[]⟩, .int .u8 0, .slice none 0 0] 52)).alloc (.cells #[.int .u8 0, .int .u64 0, .string ⟨#[]⟩, .int .u8 0, .slice none 0 0] 52)).drew) (rowG_at #[.int .u8 0, .int .u64 0, .string ⟨#[]⟩, .int .u8 0, .slice none 0 0] 52 (w.alloc (.cells #[.int .u8 0, .int .u64 0, .string ⟨#[]⟩, .int .u8 0, .slice none 0 0] 52)) (w.heap.size + 1) (by simp)) hb0
    have y0 := hrw.1 0 (by simp)
    have y1 := hrw.1 1 (by simp)
    have y2 := hrw.1 2 (by simp)
    have y3 := hrw.1 3 (by simp)
    have y4 := hrw.1 4 (by simp)
    have yf := hrw.2.1
    have yl := hrw.2.2
    have hrs := rowG_b (X := ((w.alloc (.cells #[.int .u8 0, .int .u64 0, .string ⟨#[]⟩, .int .u8 0, .slice none 0 0] 52)).alloc (.cells #[.int .u8 0, .int .u64 0, .string ⟨#[]⟩, .int .u8 0, .slice none 0 0] 52)).drew) (rowG_alloc (rowG_at #[.int .u8 0, .int .u64 0, .string ⟨#[]⟩, .int .u8 0, .slice none 0 0] 52 w w.heap.size rfl) _) hb0
    have z0 := hrs.1 0 (by simp)
    have z1 := hrs.1 1 (by simp)
    have z2 := hrs.1 2 (by simp)
    have z3 := hrs.1 3 (by simp)
    have z4 := hrs.1 4 (by simp)
    have zf := hrs.2.1
    have zl := hrs.2.2
    refine hK _ _ ⟨hb1, ?_⟩
    clear hK K
    refine wpAnyK_take (i := 9) rfl (by kernel_rfl) (by kernel_rfl) (by kernel_rfl) (fun _ _ _ _ h => h) hb1 (fun K hK => ?_)
    apply Exists.intro
    refine ⟨Or.inl ⟨by kernel_rfl, fun w' hf => ?_⟩, ?_⟩
    · obtain ⟨k0, k1, kl⟩ := hFi _ hf
      go_simp
      try exact rfl
    go_simp
    refine hK _ ?_
    clear hK K
    refine wpAnyK_take (i := 10) rfl (by kernel_rfl) (by kernel_rfl) (by kernel_rfl) (fun _ _ _ _ h => h) hb1 (fun K hK => ?_)
    apply Exists.intro
    refine ⟨Or.inl ⟨by kernel_rfl, fun w' hf => ?_⟩, ?_⟩
    · obtain ⟨k0, k1, kl⟩ := hFi _ hf
      go_simp
      try exact rfl
    go_simp
    refine hK _ ?_
    clear hK K
    refine wpAnyK_take (i := 11) rfl (by kernel_rfl) (by kernel_rfl) (by kernel_rfl) (fun _ _ _ _ h => h) hb1 (fun K hK => ?_)
    apply Exists.intro
    refine ⟨Or.inl ⟨by kernel_rfl, fun w' hf => ?_⟩, ?_⟩
    · obtain ⟨k0, k1, kl⟩ := hFi _ hf
      go_simp
      try exact rfl
    go_simp
    refine hK _ ?_
    clear hK K
    refine wpAnyK_take (i := 12) rfl (by kernel_rfl) (by kernel_rfl) (by kernel_rfl) (fun _ _ _ _ h => h) hb1 (fun K hK => ?_)
    apply Exists.intro
    refine ⟨Or.inl ⟨by kernel_rfl, fun w' hf => ?_⟩, ?_⟩
    · obtain ⟨k0, k1, kl⟩ := hFi _ hf
      go_simp
      try exact rfl
    go_simp
    refine hK _ ?_
    clear hK K
    refine wpAnyK_one (k := 14) (by kernel_rfl) ?_
    refine wpOp_step rfl (fun K hK => ?_)
    go_simp
    refine hK _ _ ⟨((((((hb1.setCell (by simp) _).setCell (by simp) _).setCell (by simp) _).setCell (by simp) _).setCell (by simp) _)), ?_⟩
    clear hK K
    refine wpAnyK_take (i := 15) rfl (by kernel_rfl) (by kernel_rfl) (by kernel_rfl) (fun _ _ _ _ h => h) ((((((hb1.setCell (by simp) _).setCell (by simp) _).setCell (by simp) _).setCell (by simp) _).setCell (by simp) _)) (fun K hK => ?_)
    apply Exists.intro
    refine ⟨Or.inl ⟨by kernel_rfl, fun w' hf => ?_⟩, ?_⟩
    · obtain ⟨k0, k1, kl⟩ := hFi _ hf
      go_simp
      try exact rfl
    go_simp
    refine hK _ ?_
    clear hK K
    refine wpAnyK_take (i := 16) rfl (by kernel_rfl) (by kernel_rfl) (by kernel_rfl) (fun _ _ _ _ h => h) ((((((hb1.setCell (by simp) _).setCell (by simp) _).setCell (by simp) _).setCell (by simp) _).setCell (by simp) _)) (fun K hK => ?_)
    apply Exists.intro
    refine ⟨Or.inl ⟨by kernel_rfl, fun w' hf => ?_⟩, ?_⟩
    · obtain ⟨k0, k1, kl⟩ := hFi _ hf
      go_simp
      try exact rfl
    go_simp
    refine hK _ ?_
    clear hK K
    refine wpAnyK_done (by kernel_rfl) ?_
    have hB2 : Below w.heap.size w ((((((w1.setCell ⟨w.heap.size + 1, 0, none⟩ (.int .u8 k)).setCell ⟨w.heap.size + 1, 1, none⟩ (.int .u64 nn)).setCell ⟨w.heap.size + 1, 2, none⟩ (.string s)).setCell ⟨w.heap.size + 1, 3, none⟩ (.int .u8 o)).setCell ⟨w.heap.size + 1, 4, none⟩ (.slice mk m cap))) := ((((((hb1.setCell (by simp) _).setCell (by simp) _).setCell (by simp) _).setCell (by simp) _).setCell (by simp) _))
    have hX := row5_all rfl (.int .u8 k) (.int .u64 nn) (.string s) (.int .u8 o) (.slice mk m cap) hrw
    have hgl : w.heap.size < w.heap.size + 1 := (by omega)
    have hS := rowG_other (.slice mk m cap) (j := w.heap.size + 1) (o := 4) (rowG_other (.int .u8 o) (j := w.heap.size + 1) (o := 3) (rowG_other (.string s) (j := w.heap.size + 1) (o := 2) (rowG_other (.int .u64 nn) (j := w.heap.size + 1) (o := 1) (rowG_other (.int .u8 k) (j := w.heap.size + 1) (o := 0) hrs (by omega)) (by omega)) (by omega)) (by omega)) (by omega)
    have hE2 := hE.only (w' := (((((w1.setCell ⟨w.heap.size + 1, 0, none⟩ (.int .u8 k)).setCell ⟨w.heap.size + 1, 1, none⟩ (.int .u64 nn)).setCell ⟨w.heap.size + 1, 2, none⟩ (.string s)).setCell ⟨w.heap.size + 1, 3, none⟩ (.int .u8 o)).setCell ⟨w.heap.size + 1, 4, none⟩ (.slice mk m cap))) (S := fun j => j = w.heap.size + 1) (os1 (os1 (os1 (os1 (os1 (or1 (w.heap.size + 1) _) _ _) _ _) _ _) _ _) _ _) (fun b hb e => by have := hb.1; simp at this; omega)
    have hsz : w1.heap.size ≤ ((((((w1.setCell ⟨w.heap.size + 1, 0, none⟩ (.int .u8 k)).setCell ⟨w.heap.size + 1, 1, none⟩ (.int .u64 nn)).setCell ⟨w.heap.size + 1, 2, none⟩ (.string s)).setCell ⟨w.heap.size + 1, 3, none⟩ (.int .u8 o)).setCell ⟨w.heap.size + 1, 4, none⟩ (.slice mk m cap))).heap.size := by simp
    obtain ⟨W2, hW2⟩ : ∃ W, (((((w1.setCell ⟨w.heap.size + 1, 0, none⟩ (.int .u8 k)).setCell ⟨w.heap.size + 1, 1, none⟩ (.int .u64 nn)).setCell ⟨w.heap.size + 1, 2, none⟩ (.string s)).setCell ⟨w.heap.size + 1, 3, none⟩ (.int .u8 o)).setCell ⟨w.heap.size + 1, 4, none⟩ (.slice mk m cap)) = W := ⟨_, rfl⟩
    rw [hW2] at hB2 hX hS hE2 hsz ⊢
    clear hW2
    obtain ⟨d0, d1, dl⟩ := hFi _ hB2
    have df := hFf _ hB2
    have u0 := hX.1 0 (by simp)
    have u1 := hX.1 1 (by simp)
    have u2 := hX.1 2 (by simp)
    have u3 := hX.1 3 (by simp)
    have u4 := hX.1 4 (by simp)
    have r0 := hS.1 0 (by simp)
    have r1 := hS.1 1 (by simp)
    have r2 := hS.1 2 (by simp)
    have r3 := hS.1 3 (by simp)
    have r4 := hS.1 4 (by simp)
    have rf := hS.2.1
    have rl := hS.2.2
    have ul := hX.2.2
    clear hRd hFi hFf hF0 hFB
    go_wp2
    have hRs := (HH.out.of hB2).setP hq
    have hOn : Only (fun j => w.heap.size ≤ j) (W2.setCell ⟨rb, 1, none⟩ (.int .i64 (q : Int))) ((((((W2.setCell ⟨rb, 1, none⟩ (.int .i64 (q : Int))).setCell ⟨w.heap.size, 0, none⟩ (.int .u8 k)).setCell ⟨w.heap.size, 1, none⟩ (.int .u64 nn)).setCell ⟨w.heap.size, 2, none⟩ (.string s)).setCell ⟨w.heap.size, 3, none⟩ (.int .u8 o)).setCell ⟨w.heap.size, 4, none⟩ (.slice mk m cap)) := only_set (only_set (only_set (only_set (only_set (Only.refl _ _) _ _ _ (Nat.le_refl _)) _ _ _ (Nat.le_refl _)) _ _ _ (Nat.le_refl _)) _ _ _ (Nat.le_refl _)) _ _ _ (Nat.le_refl _)
    have hE3 := hE2.only (w' := (((((W2.setCell ⟨rb, 1, none⟩ (.int .i64 (q : Int))).setCell ⟨w.heap.size, 0, none⟩ (.int .u8 k)).setCell ⟨w.heap.size, 1, none⟩ (.int .u64 nn)).setCell ⟨w.heap.size, 2, none⟩ (.string s)).setCell ⟨w.heap.size, 3, none⟩ (.int .u8 o)).setCell ⟨w.heap.size, 4, none⟩ (.slice mk m cap)) (S := fun j => j = rb ∨ j = w.heap.size) (only_set (only_set (only_set (only_set (only_set (only_set (Only.refl _ _) _ _ _ (.inl rfl)) _ _ _ (.inr rfl)) _ _ _ (.inr rfl)) _ _ _ (.inr rfl)) _ _ _ (.inr rfl)) _ _ _ (.inr rfl)) (fun b hb e => by have := hb.1; simp at this; omega)
    refine bodyPost_ret (res_xp rfl _ _ w.heap.size _ _ _ _ _ rfl (row5_all rfl _ _ _ _ _ (rowG_other _ hS (by omega)))) rfl ?_
    exact .ok ((os1 (ob1 rb hB2) _ _).old hOn (fun j hj => .inr hj)) (HH.out.newer hRs hOn) (hE3.mono (fun b hb => ⟨by have := hb.1; simp at this; omega, by have := hb.2; simp only [World.size_setCell]; omega⟩))
end Go.Proofs.YtfpoflddnlbpjaaGreatDoor

/- Contracts of the reader of programs: a name, an expression between two signs. -/
namespace Go.Proofs.YtfpoflddnlbpjaaGreatDoor
open Go.ChangeShapes Go.WideShapes Go.ChangeAt Go.RowKit
set_option linter.unusedVariables false
theorem bdd {w w1 : World} (h : Below w.heap.size w w1) : Below w.heap.size w w1.drew := bdN h 1
theorem vx_form {w w' : World} {u : Value} {x : Xp} (h : VX w w' u x) : ∃ (k nn : Int) (s : ByteArray) (o : Int) (mk : Option Addr) (m cap : Nat), u = .agg #[.int .u8 k, .int .u64 nn, .string s, .int .u8 o, .slice mk m cap] := by
  cases h with
  | mk ho hl hk => exact ⟨_, _, _, _, _, _, _, rfl⟩
theorem expr_any {w : World} {rb mb : Nat} {v : Value} {T : List (Tk × Int)} {p d n : Nat} (h : IsRs w rb mb v T p d n) :
    Calls Tryz.prog 137 #[.pointer (some ⟨rb, 0, none⟩)] w (RP VX w rb mb v T d (expR (bareZ T) p n)) := by
  unfold expR
  cases hR : rdE 40 (bareZ T) p with
  | er c q => exact expr_er h c q hR
  | ok x q => exact expr_ok h x q hR
set_option maxRecDepth 100000 in
set_option maxHeartbeats 2000000 in
theorem nam_any {w : World} {rb mb : Nat} {v : Value} {T : List (Tk × Int)} {p d n : Nat} (h : IsRs w rb mb v T p d n) :
    Calls Tryz.prog 134 #[.pointer (some ⟨rb, 0, none⟩)] w (RP VN w rb mb v T d (namR (bareZ T) p n)) := by
  obtain ⟨t, z, ht⟩ := h.tok
  obtain ⟨b, o, N, c, c0, hpN, hN, hb, q0, q1, q2, q3⟩ := ht.at_
  have c1 := h.c1
  have hf := h.f
  have hrl := h.rl
  have hw : IntKind.i64.wrap ((p : Int) + 1) = ((p + 1 : Nat) : Int) := by rw [IntKind.wrap_i64]; have := h.lt; have := h.len; omega
  have hm := h.more
  have HH := Lib.hid h
  unfold namR
  rw [ht.knd_] at hm ⊢
  rw [ht.txt_] at hm ⊢
  clear ht h
  by_cases hc : t.k = 1
  · rw [if_pos hc]
    have hm' := hm (.inr (by omega))
    rw [hc] at q0
    clear hm hc
    go_enter Tryz.func134, Tryz.ntmps134
    go_wp2
    go_region
    go_wp2
    go_ret
    exact .ok ((os1 (or1 rb w) _ _).trans (ob1 rb (bdN (aB (Below.refl _ _) _) 1))) ((HH.out.setP hm').of (bdN (aB (Below.refl _ _) _) 1)) rfl
  · rw [if_neg hc]
    have hS := fun W hB => stop_any (HH.out.of (w' := W) hB) 7 7 rfl
    have hcc : ((t.k : Int) != 1) = true := by simp; omega
    go_enter Tryz.func134, Tryz.ntmps134
    go_wp2
    go_region
    go_wp2_with (go_at_call 109; ((with_reducible refine (hS _ (bdd (aB (Below.refl _ _) _))).mono ?_); (rintro e w2 ⟨he, k, rfl⟩); unfold Flt at he; subst he))
    exact ⟨rfl, .er (only_drew (ob1 rb (aB (Below.refl _ _) _)) (1 + k))⟩
set_option maxRecDepth 100000 in
set_option maxHeartbeats 2000000 in
theorem betw_any {w : World} {rb mb : Nat} {v : Value} {T : List (Tk × Int)} {p d n : Nat} (h : IsRs w rb mb v T p d n) (a b : List UInt8) (ha : a ≠ []) (hb : b ≠ []) :
    Calls Tryz.prog 135 #[.pointer (some ⟨rb, 0, none⟩), .string (str a), .string (str b)] w (RP VX w rb mb v T d (betR (bareZ T) a b p n)) := by
  unfold betR
  go_enter Tryz.func135, Tryz.ntmps135
  have hB0 : Below w.heap.size w (w.alloc (.cells #[.int .u8 0, .int .u64 0, .string ⟨#[]⟩, .int .u8 0, .slice none 0 0] 52)) := aB (Below.refl _ _) _
  have hO0 := ob1 rb hB0
  have hS0 := rowG_at #[.int .u8 0, .int .u64 0, .string ⟨#[]⟩, .int .u8 0, .slice none 0 0] 52 w w.heap.size rfl
  have hrl := h.rl
  go_wp2_with (first
    | (go_at_call 136; ((with_reducible refine (take_any (h.of hB0) a ha).mono ?_); (rintro e w1 ⟨hO1, hR1⟩); (have hP1 := hO0.trans hO1); (have hS1 := rowG_only hS0 hO1 (fun e => by omega)); (rcases r1 : takR (bareZ T) a p n with ⟨c1, q1⟩ | ⟨x1, q1, m1⟩) <;> (rw [r1] at hR1; first | (unfold Flt at hR1; subst hR1) | (obtain ⟨hI1, z1, rfl, hV1⟩ := hR1))))
    | (go_at_call 137; ((with_reducible refine (expr_any hI1).mono ?_); (rintro e w2 ⟨hO2, hR2⟩); (have hP2 := hP1.trans hO2); (have hS2 := rowG_only hS1 hO2 (fun e => by omega)); (rcases r2 : expR (bareZ T) q1 m1 with ⟨c2, q2⟩ | ⟨x2, q2, m2⟩) <;> (rw [r2] at hR2; first | (unfold Flt at hR2; subst hR2) | (obtain ⟨hI2, z2, rfl, hV2⟩ := hR2; (obtain ⟨k, nn, s, o, mk, mm, cap, rfl⟩ := vx_form hV2); (have hX2 := rowG_at #[.int .u8 k, .int .u64 nn, .string s, .int .u8 o, .slice mk mm cap] 52 w2 w2.heap.size rfl); (have hIX := hI2.of (aB (Below.refl _ _) (.cells #[.int .u8 k, .int .u64 nn, .string s, .int .u8 o, .slice mk mm cap] 52))); (have hPX := hP2.trans (ob1 rb (aB (Below.refl _ _) (.cells #[.int .u8 k, .int .u64 nn, .string s, .int .u8 o, .slice mk mm cap] 52))))))))
    | (go_at_call 136; ((with_reducible refine (take_any hIX b hb).mono ?_); (rintro e w3 ⟨hO3, hR3⟩); (have hP3 := hPX.trans hO3); (have hl2 := hX2.2.2); (have hX3 := rowG_only hX2 hO3 (fun e => by have := hI2.rl; omega)); (have hS3 := rowG_only (rowG_alloc hS2 _) hO3 (fun e => by omega)); (rcases r3 : takR (bareZ T) b q2 m2 with ⟨c3, q3⟩ | ⟨x3, q3, m3⟩) <;> (rw [r3] at hR3; first | (unfold Flt at hR3; subst hR3) | (obtain ⟨hI3, z3, rfl, hV3⟩ := hR3; (have u0 := hX3.1 0 (by simp)); (have u1 := hX3.1 1 (by simp)); (have u2 := hX3.1 2 (by simp)); (have u3 := hX3.1 3 (by simp)); (have u4 := hX3.1 4 (by simp)); (have s0 := hS3.1 0 (by simp)); (have s1 := hS3.1 1 (by simp)); (have s2 := hS3.1 2 (by simp)); (have s3 := hS3.1 3 (by simp)); (have s4 := hS3.1 4 (by simp)); (have sf := hS3.2.1); (have sl := hS3.2.2); (have ul := hX3.2.2)))))
    )
  all_goals first
    | (refine ⟨rfl, ?_⟩; simp only [r1, Rz.next]; exact .er hP1)
    | (refine ⟨rfl, ?_⟩; simp only [r1, r2, Rz.next]; exact .er hP2)
    | (refine ⟨rfl, ?_⟩; simp only [r1, r2, r3, Rz.next]; exact .er hP3)
    | skip
  simp only [r1, r2, r3, Rz.next]
  have hOn : Only (fun j => w.heap.size ≤ j) w3 (((((w3.setCell ⟨w.heap.size, 0, none⟩ (.int .u8 k)).setCell ⟨w.heap.size, 1, none⟩ (.int .u64 nn)).setCell ⟨w.heap.size, 2, none⟩ (.string s)).setCell ⟨w.heap.size, 3, none⟩ (.int .u8 o)).setCell ⟨w.heap.size, 4, none⟩ (.slice mk mm cap)) := only_set (only_set (only_set (only_set (only_set (Only.refl _ _) _ _ _ (Nat.le_refl _)) _ _ _ (Nat.le_refl _)) _ _ _ (Nat.le_refl _)) _ _ _ (Nat.le_refl _)) _ _ _ (Nat.le_refl _)
  have hsz1 := hP1.size
  have hsz2 : w2.heap.size ≤ w3.heap.size := by have := hO3.size; simp at this; omega
  have hE3 := ((hV2.of (aB (Below.refl _ _) (.cells #[.int .u8 k, .int .u64 nn, .string s, .int .u8 o, .slice mk mm cap] 52))).only hO3 (fun b hb e => by have := hb.1; omega)).only (w' := (((((w3.setCell ⟨w.heap.size, 0, none⟩ (.int .u8 k)).setCell ⟨w.heap.size, 1, none⟩ (.int .u64 nn)).setCell ⟨w.heap.size, 2, none⟩ (.string s)).setCell ⟨w.heap.size, 3, none⟩ (.int .u8 o)).setCell ⟨w.heap.size, 4, none⟩ (.slice mk mm cap))) (S := fun j => j = w.heap.size) (os1 (os1 (os1 (os1 (os1 (or1 _ _) _ _) _ _) _ _) _ _) _ _) (fun b hb e => by have := hb.1; have := hO1.size; simp at this; omega)
  refine bodyPost_ret (res_xp rfl _ _ w.heap.size _ _ _ _ _ rfl (row5_all rfl _ _ _ _ _ hS3)) rfl ?_
  exact .ok (hP3.old hOn (fun j hj => .inr hj)) (h.newer hI3 hOn) (hE3.mono (fun b hb => ⟨by have := hb.1; omega, by have := hb.2; simp only [World.size_setCell]; omega⟩))
end Go.Proofs.YtfpoflddnlbpjaaGreatDoor
