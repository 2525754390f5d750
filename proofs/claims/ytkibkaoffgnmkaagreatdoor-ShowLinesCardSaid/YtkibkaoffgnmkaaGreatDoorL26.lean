/- Contracts of list: rows of params, of expressions, of names, a comma between two. -/
import Derived.Test.YtkibkaoffgnmkaaGreatDoorL25
namespace Go.Proofs.YtkibkaoffgnmkaaGreatDoor
set_option linter.unusedVariables false
set_option linter.unusedSimpArgs false
set_option maxRecDepth 100000
set_option maxHeartbeats 200000000
open Go.ChangeShapes Go.WideShapes Go.ChangeAt Go.RowKit
theorem flat_take_le {α : Type} (g : α → List Tk) (l : List α) (j : Nat) : ((l.take j).flatMap g).length ≤ (l.flatMap g).length := by
 conv => rhs; rw [← List.take_append_drop j l, List.flatMap_append, List.length_append]
 omega
theorem com_le {α : Type} (f : α → List Tk) : ∀ (l : List α) (j : Nat), (comT f (l.take j)).length ≤ (comT f l).length
 | [], j => by simp
 | x :: r, 0 => by simp [comT]
 | x :: r, j + 1 => by
  rw [List.take_succ_cons, comT, comT, List.length_append, List.length_append]
  have := flat_take_le (fun y => sg [44] :: f y) r j
  omega
theorem com_take {α : Type} (f : α → List Tk) : ∀ (l : List α) (j : Nat) (h : j < l.length), comT f (l.take (j + 1)) = comT f (l.take j) ++ ((if j = 0 then [] else [sg [44]]) ++ f l[j])
 | x :: r, 0, _ => by simp [comT]
 | x :: r, j + 1, h => by
  have h' : j < r.length := by simpa using h
  rw [List.take_succ_cons, List.take_succ_cons, comT, comT, List.take_succ_eq_append_getElem h', List.flatMap_append]
  simp
theorem com_j {α : Type} (f : α → List Tk) (l : List α) (j : Nat) (h : j < l.length) : (comT f (l.take j)).length + (if j = 0 then 0 else 1) + (f l[j]).length ≤ (comT f l).length := by
 have h1 := com_le f l (j + 1)
 rw [com_take f l j h, List.length_append, List.length_append] at h1
 by_cases c : j = 0
 ·rw [if_pos c] at h1 ⊢
  simp only [List.length_nil] at h1
  omega
 ·rw [if_neg c] at h1 ⊢
  simp only [List.length_cons, List.length_nil] at h1
  omega
theorem tl_onB {B : Nat} {w w' : World} {l l' : Value} {T' : List (Tk × Int)} {n : Nat} {xs : List Value} (h : Tl B w w' l l' T') (ho : w.ownsRow B 95 4 l n xs) : Only (fun j => B ≤ j) w w' := h.only.mono (own_ge ho)
theorem rlist_pm (ls : List (Pm)) (ma : Option Addr) (n cap : Nat) (B : Nat) (l : Value) (T : List (Tk × Int)) (w : World) (hn : ls.length = n) (hP : PmsAt (fun b => b < B) w ls ma) (hW : Wr B w) (hnl : ls.length ≤ 140737488355328) (ho : w.ownsRow B 95 4 l T.length (cellsZ T)) (hl : T.length + (comT pmT ls).length ≤ 999990) :
  Calls Tryz.prog 118 #[l, .slice ma n cap, .func (.func 119) #[] #[]] w fun r w' => ∃ l', r = .returned l' ∧ Tl B w w' l l' (T ++ zs (comT pmT ls)) := by
 have HP := Lib.hid hP
 have HW := Lib.hid hW
 have hB := hW.le
 have HN := Lib.hid hn
 have hn47 : n ≤ 140737488355328 := by omega
 have HL := Lib.hid hl
 clear hP hW hn hnl hl
 go_enter Tryz.func118, Tryz.ntmps118
 go_wp2
 go_loopw [0, 11] (fun l1 i wr => ∃ j : Nat, j ≤ n ∧ i = .int .i64 j ∧ Tl B w wr l l1 (T ++ zs (comT pmT (ls.take j)))) (fun _ i _ => n - (intOf i).toNat)
 case atStart => exact ⟨0, by omega, rfl, by simpa [zs, comT] using Tl.refl ho⟩
 case round =>
  obtain ⟨j, hj, rfl, hT⟩ := hrel
  by_cases hlt : j < n
  ·have hlt' : j < ls.length := by rw [HN.out]; exact hlt
   have hcj := com_j pmT ls j hlt'
   have hct := com_take pmT ls j hlt'
   have hLo := HL.out
   obtain ⟨b, o, hma, hbB, k0, k1, k2, k3⟩ := HP.out j hlt'
   subst hma
   have hne : ¬ l.ownBlock = some b := own_new ho (.inr hbB)
   have g0 := hT.only.cell (a := ⟨b, o + j * 4, none⟩) hne k0
   have g1 := hT.only.cell (a := ⟨b, o + j * 4 + 1, none⟩) hne k1
   have g2 := hT.only.cell (a := ⟨b, o + j * 4 + 2, none⟩) hne k2
   have g3 := hT.only.cell (a := ⟨b, o + j * 4 + 3, none⟩) hne k3
   have hbl : b < wr.heap.size := World.block_lt_of_cell? wr _ g0
   clear k0 k1 k2 k3
   obtain ⟨x, hx⟩ : ∃ x, x = ls[j] := ⟨_, rfl⟩
   rw [← hx] at hcj hct g0 g1 g2 g3
   have hput : ∀ w' l' T', Only (fun j => B ≤ j) w w' → w'.ownsRow B 95 4 l' T'.length (cellsZ T') → B ≤ w'.heap.size → T'.length + (pmT x).length ≤ 999990 → Calls Tryz.prog 119 #[l', .agg #[.string (str x.nm), .bool x.buf, .bool x.sec, .bool x.mu]] w' fun r w2 => ∃ l2, r = .returned l2 ∧ Tl B w' w2 l' l2 (T' ++ zs (pmT x)) := fun w' l' T' _ h1 h2 h3 => rparam_any x B l' T' w' h1 h2 (by omega)
   have HX := Lib.hid hx
   have HCT := Lib.hid hct
   clear hx hct
   have hOn := tl_onB hT ho
   have hTl : (T ++ zs (comT pmT (ls.take j))).length + (if j = 0 then 0 else 1) + (pmT x).length ≤ 999990 := by simp only [List.length_append, zs_len]; omega
   clear hcj hLo
   have ho1 := hT.own
   have HT := Lib.hid hT
   have hBr : B ≤ wr.heap.size := Nat.le_trans hB hT.only.size
   clear hT
   generalize hT0 : T ++ zs (comT pmT (ls.take j)) = T1 at *
   have HT0 := Lib.hid hT0
   clear hT0
   obtain ⟨W1, hW1⟩ : ∃ W1, wr.alloc (.cells #[.string (str x.nm), .bool x.buf, .bool x.sec, .bool x.mu] 49) = W1 := ⟨_, rfl⟩
   have hB1 : Below wr.heap.size wr W1 := by rw [← hW1]; exact aB (Below.refl _ _) _
   have hr1 : rowG #[.string (str x.nm), .bool x.buf, .bool x.sec, .bool x.mu] W1 wr.heap.size := by rw [← hW1]; exact rowG_at _ _ _ _ rfl
   have how := own_of ho1 hB1
   have hBw1 : B ≤ W1.heap.size := Nat.le_trans hBr hB1.size
   by_cases h0 : j = 0
   ·rw [if_pos h0] at hTl
    have H0 := Lib.hid h0
    have h0p : (j : Int) ≤ 0 := by omega
    clear h0
    have hin := hput W1 _ T1 (hOn.trans (only_below hB1)) how hBw1 (by omega)
    obtain ⟨p0, p1, p2, p3, pl⟩ := (⟨hr1.1 0 (by simp), hr1.1 1 (by simp), hr1.1 2 (by simp), hr1.1 3 (by simp), hr1.2.2⟩ : W1.cell? ⟨wr.heap.size, 0, none⟩ = some (.string (str x.nm)) ∧ W1.cell? ⟨wr.heap.size, 1, none⟩ = some (.bool x.buf) ∧ W1.cell? ⟨wr.heap.size, 2, none⟩ = some (.bool x.sec) ∧ W1.cell? ⟨wr.heap.size, 3, none⟩ = some (.bool x.mu) ∧ wr.heap.size < W1.heap.size)
    go_wp2_with (go_at_call 119; ((with_reducible refine hin.mono ?_); (rintro e w5 ⟨l5, rfl, hT5⟩)))
    have hT6 := HT.out.trans (hT5.pre hB1)
    go_roundw
    case rel => exact ⟨j + 1, by omega, by go_num, by rw [HCT.out, if_pos H0.out, List.nil_append, zs_app, ← List.append_assoc, HT0.out]; exact hT6⟩
    case measure => simp [intOf]; omega
   ·have h0p : (0 : Int) < (j : Int) := by omega
    rw [if_neg h0] at hTl
    have hsg := rsign_any [[44]] W1.heap.size 1 B _ T1 (W1.alloc (.cells #[.string { data := #[44] }] 9)) rfl (hasS_strs (ss := [[44]]) (HasS.new (strC [[44]]).toArray 9 W1)) (by simp) (own_new how (.inl (Nat.le_refl _))) (how.alloc _) (Nat.le_trans hBw1 (by simp)) (by simp only [List.length_cons, List.length_nil]; omega)
    have hr2 := rowG_alloc hr1 (.cells #[.string { data := #[44] }] 9)
    have hnb := own_new ho1 (.inl (Nat.le_refl wr.heap.size))
    obtain ⟨p0, p1, p2, p3, pl⟩ := (⟨hr1.1 0 (by simp), hr1.1 1 (by simp), hr1.1 2 (by simp), hr1.1 3 (by simp), hr1.2.2⟩ : W1.cell? ⟨wr.heap.size, 0, none⟩ = some (.string (str x.nm)) ∧ W1.cell? ⟨wr.heap.size, 1, none⟩ = some (.bool x.buf) ∧ W1.cell? ⟨wr.heap.size, 2, none⟩ = some (.bool x.sec) ∧ W1.cell? ⟨wr.heap.size, 3, none⟩ = some (.bool x.mu) ∧ wr.heap.size < W1.heap.size)
    go_wp2_with (first | (go_at_call 117; ((with_reducible refine hsg.mono ?_); (rintro e v3 ⟨l3, rfl, hT3⟩); have hr3 := rowG_only hr2 hT3.only hnb; (obtain ⟨q0, q1, q2, q3, ql⟩ := (⟨hr3.1 0 (by simp), hr3.1 1 (by simp), hr3.1 2 (by simp), hr3.1 3 (by simp), hr3.2.2⟩ : v3.cell? ⟨wr.heap.size, 0, none⟩ = some (.string (str x.nm)) ∧ v3.cell? ⟨wr.heap.size, 1, none⟩ = some (.bool x.buf) ∧ v3.cell? ⟨wr.heap.size, 2, none⟩ = some (.bool x.sec) ∧ v3.cell? ⟨wr.heap.size, 3, none⟩ = some (.bool x.mu) ∧ wr.heap.size < v3.heap.size)); have hOn3 := (hOn.trans (only_below (aB hB1 _))).trans (tl_onB hT3 (how.alloc _)); have hin := hput v3 l3 _ hOn3 hT3.own (Nat.le_trans hBw1 (Nat.le_trans (by simp) hT3.only.size)) (by simp only [List.length_append, zs_len, List.length_map, List.length_cons, List.length_nil]; omega))) | (go_at_call 119; ((with_reducible refine hin.mono ?_); (rintro e w5 ⟨l5, rfl, hT5⟩))))
    have hT6 := HT.out.trans ((hT3.trans hT5).pre (aB hB1 _))
    go_roundw
    case rel => exact ⟨j + 1, by omega, by go_num, by rw [HCT.out, if_neg h0, zs_app, zs_app, ← List.append_assoc, ← List.append_assoc, HT0.out]; exact hT6⟩
    case measure => simp [intOf]; omega
  ·obtain rfl : j = n := by omega
   go_wp2
   go_ret
   rw [List.take_of_length_le (by rw [HN.out]; exact Nat.le_refl _)] at hT
   exact ⟨_, rfl, hT⟩
theorem rlist_xp (ls : List (Xp)) (ma : Option Addr) (n cap : Nat) (B : Nat) (l : Value) (T : List (Tk × Int)) (w : World) (hn : ls.length = n) (hP : KidsAt (fun b => b < B) w ls ma) (hmy : ∀ x ∈ ls, mayB 40 x = true) (hnd : ∀ x ∈ ls, x.nodes ≤ 100000) (hW : Wr B w) (hnl : ls.length ≤ 140737488355328) (ho : w.ownsRow B 95 4 l T.length (cellsZ T)) (hl : T.length + (comT xpT ls).length ≤ 999990) :
  Calls Tryz.prog 182 #[l, .slice ma n cap, .func (.func 122) #[] #[]] w fun r w' => ∃ l', r = .returned l' ∧ Tl B w w' l l' (T ++ zs (comT xpT ls)) := by
 have HP := Lib.hid hP
 have HW := Lib.hid hW
 have hB := hW.le
 have HMY := Lib.hid hmy
 have HND := Lib.hid hnd
 clear hmy hnd
 have HN := Lib.hid hn
 have hn47 : n ≤ 140737488355328 := by omega
 have HL := Lib.hid hl
 clear hP hW hn hnl hl
 go_enter Tryz.func182, Tryz.ntmps182
 go_wp2
 go_loopw [0, 11] (fun l1 i wr => ∃ j : Nat, j ≤ n ∧ i = .int .i64 j ∧ Tl B w wr l l1 (T ++ zs (comT xpT (ls.take j)))) (fun _ i _ => n - (intOf i).toNat)
 case atStart => exact ⟨0, by omega, rfl, by simpa [zs, comT] using Tl.refl ho⟩
 case round =>
  obtain ⟨j, hj, rfl, hT⟩ := hrel
  by_cases hlt : j < n
  ·have hlt' : j < ls.length := by rw [HN.out]; exact hlt
   have hcj := com_j xpT ls j hlt'
   have hct := com_take xpT ls j hlt'
   have hLo := HL.out
   obtain ⟨b, o, hma⟩ := kids_some HP.out (by omega)
   subst hma
   obtain ⟨ka, kc, hkid⟩ := kidIn HP.out j hlt'
   obtain ⟨hbB, k0, k1, k2, k3, k4, hEx⟩ := hkid
   have hne : ¬ l.ownBlock = some b := own_new ho (.inr hbB)
   have g0 := hT.only.cell (a := ⟨b, o + j * 5, none⟩) hne k0
   have g1 := hT.only.cell (a := ⟨b, o + j * 5 + 1, none⟩) hne k1
   have g2 := hT.only.cell (a := ⟨b, o + j * 5 + 2, none⟩) hne k2
   have g3 := hT.only.cell (a := ⟨b, o + j * 5 + 3, none⟩) hne k3
   have g4 := hT.only.cell (a := ⟨b, o + j * 5 + 4, none⟩) hne k4
   have hbl : b < wr.heap.size := World.block_lt_of_cell? wr _ g0
   clear k0 k1 k2 k3 k4
   obtain ⟨x, hx⟩ : ∃ x, x = ls[j] := ⟨_, rfl⟩
   rw [← hx] at hcj hct g0 g1 g2 g3 g4
   have hmx := HMY.out _ (List.getElem_mem hlt')
   have hnx := HND.out _ (List.getElem_mem hlt')
   rw [← hx] at hEx hmx hnx
   have hput : ∀ w' l' T', Only (fun j => B ≤ j) w w' → w'.ownsRow B 95 4 l' T'.length (cellsZ T') → B ≤ w'.heap.size → T'.length + (xpT x).length ≤ 999990 → Calls Tryz.prog 122 #[l', .agg #[.int .u8 (x.k : Int), .int .u64 (x.n : Int), .string (str x.s), .int .u8 (x.o : Int), .slice ka x.l.length kc]] w' fun r w2 => ∃ l2, r = .returned l2 ∧ Tl B w' w2 l' l2 (T' ++ zs (xpT x)) := fun w' l' T' hon h1 h2 h3 => rexpr_any x _ B l' T' w' (hEx.only hon (fun b hb h => by have hb' : b < B := hb; have h' : B ≤ b := h; omega)) (HW.out.only hon (fun _ h => h)) hmx hnx h1 (by omega)
   clear hEx hmx hnx
   have HX := Lib.hid hx
   have HCT := Lib.hid hct
   clear hx hct
   have hOn := tl_onB hT ho
   have hTl : (T ++ zs (comT xpT (ls.take j))).length + (if j = 0 then 0 else 1) + (xpT x).length ≤ 999990 := by simp only [List.length_append, zs_len]; omega
   clear hcj hLo
   have ho1 := hT.own
   have HT := Lib.hid hT
   have hBr : B ≤ wr.heap.size := Nat.le_trans hB hT.only.size
   clear hT
   generalize hT0 : T ++ zs (comT xpT (ls.take j)) = T1 at *
   have HT0 := Lib.hid hT0
   clear hT0
   obtain ⟨W1, hW1⟩ : ∃ W1, wr.alloc (.cells #[.int .u8 (x.k : Int), .int .u64 (x.n : Int), .string (str x.s), .int .u8 (x.o : Int), .slice ka x.l.length kc] 47) = W1 := ⟨_, rfl⟩
   have hB1 : Below wr.heap.size wr W1 := by rw [← hW1]; exact aB (Below.refl _ _) _
   have hr1 : rowG #[.int .u8 (x.k : Int), .int .u64 (x.n : Int), .string (str x.s), .int .u8 (x.o : Int), .slice ka x.l.length kc] W1 wr.heap.size := by rw [← hW1]; exact rowG_at _ _ _ _ rfl
   have how := own_of ho1 hB1
   have hBw1 : B ≤ W1.heap.size := Nat.le_trans hBr hB1.size
   by_cases h0 : j = 0
   ·rw [if_pos h0] at hTl
    have H0 := Lib.hid h0
    have h0p : (j : Int) ≤ 0 := by omega
    clear h0
    have hin := hput W1 _ T1 (hOn.trans (only_below hB1)) how hBw1 (by omega)
    obtain ⟨p0, p1, p2, p3, p4, pl⟩ := (⟨hr1.1 0 (by simp), hr1.1 1 (by simp), hr1.1 2 (by simp), hr1.1 3 (by simp), hr1.1 4 (by simp), hr1.2.2⟩ : W1.cell? ⟨wr.heap.size, 0, none⟩ = some (.int .u8 (x.k : Int)) ∧ W1.cell? ⟨wr.heap.size, 1, none⟩ = some (.int .u64 (x.n : Int)) ∧ W1.cell? ⟨wr.heap.size, 2, none⟩ = some (.string (str x.s)) ∧ W1.cell? ⟨wr.heap.size, 3, none⟩ = some (.int .u8 (x.o : Int)) ∧ W1.cell? ⟨wr.heap.size, 4, none⟩ = some (.slice ka x.l.length kc) ∧ wr.heap.size < W1.heap.size)
    go_wp2_with (go_at_call 122; ((with_reducible refine hin.mono ?_); (rintro e w5 ⟨l5, rfl, hT5⟩)))
    have hT6 := HT.out.trans (hT5.pre hB1)
    go_roundw
    case rel => exact ⟨j + 1, by omega, by go_num, by rw [HCT.out, if_pos H0.out, List.nil_append, zs_app, ← List.append_assoc, HT0.out]; exact hT6⟩
    case measure => simp [intOf]; omega
   ·have h0p : (0 : Int) < (j : Int) := by omega
    rw [if_neg h0] at hTl
    have hsg := rsign_any [[44]] W1.heap.size 1 B _ T1 (W1.alloc (.cells #[.string { data := #[44] }] 9)) rfl (hasS_strs (ss := [[44]]) (HasS.new (strC [[44]]).toArray 9 W1)) (by simp) (own_new how (.inl (Nat.le_refl _))) (how.alloc _) (Nat.le_trans hBw1 (by simp)) (by simp only [List.length_cons, List.length_nil]; omega)
    have hr2 := rowG_alloc hr1 (.cells #[.string { data := #[44] }] 9)
    have hnb := own_new ho1 (.inl (Nat.le_refl wr.heap.size))
    obtain ⟨p0, p1, p2, p3, p4, pl⟩ := (⟨hr1.1 0 (by simp), hr1.1 1 (by simp), hr1.1 2 (by simp), hr1.1 3 (by simp), hr1.1 4 (by simp), hr1.2.2⟩ : W1.cell? ⟨wr.heap.size, 0, none⟩ = some (.int .u8 (x.k : Int)) ∧ W1.cell? ⟨wr.heap.size, 1, none⟩ = some (.int .u64 (x.n : Int)) ∧ W1.cell? ⟨wr.heap.size, 2, none⟩ = some (.string (str x.s)) ∧ W1.cell? ⟨wr.heap.size, 3, none⟩ = some (.int .u8 (x.o : Int)) ∧ W1.cell? ⟨wr.heap.size, 4, none⟩ = some (.slice ka x.l.length kc) ∧ wr.heap.size < W1.heap.size)
    go_wp2_with (first | (go_at_call 117; ((with_reducible refine hsg.mono ?_); (rintro e v3 ⟨l3, rfl, hT3⟩); have hr3 := rowG_only hr2 hT3.only hnb; (obtain ⟨q0, q1, q2, q3, q4, ql⟩ := (⟨hr3.1 0 (by simp), hr3.1 1 (by simp), hr3.1 2 (by simp), hr3.1 3 (by simp), hr3.1 4 (by simp), hr3.2.2⟩ : v3.cell? ⟨wr.heap.size, 0, none⟩ = some (.int .u8 (x.k : Int)) ∧ v3.cell? ⟨wr.heap.size, 1, none⟩ = some (.int .u64 (x.n : Int)) ∧ v3.cell? ⟨wr.heap.size, 2, none⟩ = some (.string (str x.s)) ∧ v3.cell? ⟨wr.heap.size, 3, none⟩ = some (.int .u8 (x.o : Int)) ∧ v3.cell? ⟨wr.heap.size, 4, none⟩ = some (.slice ka x.l.length kc) ∧ wr.heap.size < v3.heap.size)); have hOn3 := (hOn.trans (only_below (aB hB1 _))).trans (tl_onB hT3 (how.alloc _)); have hin := hput v3 l3 _ hOn3 hT3.own (Nat.le_trans hBw1 (Nat.le_trans (by simp) hT3.only.size)) (by simp only [List.length_append, zs_len, List.length_map, List.length_cons, List.length_nil]; omega))) | (go_at_call 122; ((with_reducible refine hin.mono ?_); (rintro e w5 ⟨l5, rfl, hT5⟩))))
    have hT6 := HT.out.trans ((hT3.trans hT5).pre (aB hB1 _))
    go_roundw
    case rel => exact ⟨j + 1, by omega, by go_num, by rw [HCT.out, if_neg h0, zs_app, zs_app, ← List.append_assoc, ← List.append_assoc, HT0.out]; exact hT6⟩
    case measure => simp [intOf]; omega
  ·obtain rfl : j = n := by omega
   go_wp2
   go_ret
   rw [List.take_of_length_le (by rw [HN.out]; exact Nat.le_refl _)] at hT
   exact ⟨_, rfl, hT⟩
theorem rlist_st (ls : List (List UInt8)) (ma : Option Addr) (n cap : Nat) (B : Nat) (l : Value) (T : List (Tk × Int)) (w : World) (hn : ls.length = n) (hP : StrsAt (fun b => b < B) w ls ma) (hW : Wr B w) (hnl : ls.length ≤ 140737488355328) (ho : w.ownsRow B 95 4 l T.length (cellsZ T)) (hl : T.length + (comT (fun s => [nmT s]) ls).length ≤ 999990) :
  Calls Tryz.prog 183 #[l, .slice ma n cap, .func (.func 116) #[] #[]] w fun r w' => ∃ l', r = .returned l' ∧ Tl B w w' l l' (T ++ zs (comT (fun s => [nmT s]) ls)) := by
 have HP := Lib.hid hP
 have HW := Lib.hid hW
 have hB := hW.le
 have HN := Lib.hid hn
 have hn47 : n ≤ 140737488355328 := by omega
 have HL := Lib.hid hl
 clear hP hW hn hnl hl
 go_enter Tryz.func183, Tryz.ntmps183
 go_wp2
 go_loopw [0, 11] (fun l1 i wr => ∃ j : Nat, j ≤ n ∧ i = .int .i64 j ∧ Tl B w wr l l1 (T ++ zs (comT (fun s => [nmT s]) (ls.take j)))) (fun _ i _ => n - (intOf i).toNat)
 case atStart => exact ⟨0, by omega, rfl, by simpa [zs, comT] using Tl.refl ho⟩
 case round =>
  obtain ⟨j, hj, rfl, hT⟩ := hrel
  by_cases hlt : j < n
  ·have hlt' : j < ls.length := by rw [HN.out]; exact hlt
   have hcj := com_j (fun s => [nmT s]) ls j hlt'
   have hct := com_take (fun s => [nmT s]) ls j hlt'
   have hLo := HL.out
   obtain ⟨b, o, hma, hbB, k0⟩ := HP.out j hlt'
   subst hma
   have hne : ¬ l.ownBlock = some b := own_new ho (.inr hbB)
   have g0 := hT.only.cell (a := ⟨b, o + j, none⟩) hne k0
   have hbl : b < wr.heap.size := World.block_lt_of_cell? wr _ g0
   clear k0
   obtain ⟨x, hx⟩ : ∃ x, x = ls[j] := ⟨_, rfl⟩
   rw [← hx] at hcj hct g0
   have hcj : (comT (fun s => [nmT s]) (ls.take j)).length + (if j = 0 then 0 else 1) + [nmT x].length ≤ (comT (fun s => [nmT s]) ls).length := hcj
   have hct : comT (fun s => [nmT s]) (ls.take (j + 1)) = comT (fun s => [nmT s]) (ls.take j) ++ ((if j = 0 then [] else [sg [44]]) ++ [nmT x]) := hct
   have hput : ∀ w' l' T', Only (fun j => B ≤ j) w w' → w'.ownsRow B 95 4 l' T'.length (cellsZ T') → B ≤ w'.heap.size → T'.length + [nmT x].length ≤ 999990 → Calls Tryz.prog 116 #[l', .string (str x)] w' fun r w2 => ∃ l2, r = .returned l2 ∧ Tl B w' w2 l' l2 (T' ++ zs [nmT x]) := fun w' l' T' _ h1 h2 h3 => rname_any x B l' T' w' h1 h2 (by simp only [List.length_cons] at h3; omega)
   have HX := Lib.hid hx
   have HCT := Lib.hid hct
   clear hx hct
   have hOn := tl_onB hT ho
   have hTl : (T ++ zs (comT (fun s => [nmT s]) (ls.take j))).length + (if j = 0 then 0 else 1) + ([nmT x]).length ≤ 999990 := by simp only [List.length_append, zs_len]; omega
   clear hcj hLo
   have ho1 := hT.own
   have HT := Lib.hid hT
   have hBr : B ≤ wr.heap.size := Nat.le_trans hB hT.only.size
   clear hT
   generalize hT0 : T ++ zs (comT (fun s => [nmT s]) (ls.take j)) = T1 at *
   have HT0 := Lib.hid hT0
   clear hT0
   by_cases h0 : j = 0
   ·rw [if_pos h0] at hTl
    have H0 := Lib.hid h0
    have h0p : (j : Int) ≤ 0 := by omega
    clear h0
    have hin := hput wr _ T1 hOn ho1 hBr (by omega)
    go_wp2_with (go_at_call 116; ((with_reducible refine hin.mono ?_); (rintro e w5 ⟨l5, rfl, hT5⟩)))
    have hT6 := HT.out.trans hT5
    go_roundw
    case rel => exact ⟨j + 1, by omega, by go_num, by rw [HCT.out, if_pos H0.out, List.nil_append, zs_app, ← List.append_assoc, HT0.out]; exact hT6⟩
    case measure => simp [intOf]; omega
   ·have h0p : (0 : Int) < (j : Int) := by omega
    rw [if_neg h0] at hTl
    have hsg := rsign_any [[44]] wr.heap.size 1 B _ T1 (wr.alloc (.cells #[.string { data := #[44] }] 9)) rfl (hasS_strs (ss := [[44]]) (HasS.new (strC [[44]]).toArray 9 wr)) (by simp) (own_new ho1 (.inl (Nat.le_refl _))) (ho1.alloc _) (Nat.le_trans hBr (by simp)) (by simp only [List.length_cons, List.length_nil] at hTl ⊢; omega)
    go_wp2_with (first | (go_at_call 117; ((with_reducible refine hsg.mono ?_); (rintro e v3 ⟨l3, rfl, hT3⟩); have hOn3 := (hOn.trans (only_below (aB (Below.refl _ _) _))).trans (tl_onB hT3 (ho1.alloc _)); have hin := hput v3 l3 _ hOn3 hT3.own (Nat.le_trans hBr (Nat.le_trans (by simp) hT3.only.size)) (by simp only [List.length_append, zs_len, List.length_map, List.length_cons, List.length_nil] at hTl ⊢; omega))) | (go_at_call 116; ((with_reducible refine hin.mono ?_); (rintro e w5 ⟨l5, rfl, hT5⟩))))
    have hT6 := HT.out.trans ((hT3.trans hT5).pre (aB (Below.refl _ _) _))
    go_roundw
    case rel => exact ⟨j + 1, by omega, by go_num, by rw [HCT.out, if_neg h0, zs_app, zs_app, ← List.append_assoc, ← List.append_assoc, HT0.out]; exact hT6⟩
    case measure => simp [intOf]; omega
  ·obtain rfl : j = n := by omega
   go_wp2
   go_ret
   rw [List.take_of_length_le (by rw [HN.out]; exact Nat.le_refl _)] at hT
   exact ⟨_, rfl, hT⟩
end Go.Proofs.YtkibkaoffgnmkaaGreatDoor
