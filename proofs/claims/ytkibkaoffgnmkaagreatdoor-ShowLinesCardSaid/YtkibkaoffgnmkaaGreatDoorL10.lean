/- Contracts of mayBe and Check. -/
import Derived.Test.YtkibkaoffgnmkaaGreatDoorL09
import Derived.Test.YtkibkaoffgnmkaaGreatDoorL04
import Derived.BigQuiet
import Derived.Deep.AppendLies
import Derived.Laws.OwnMore
import Derived.OneCell
import Derived.Test.YtkibkaoffgnmkaaGreatDoorL07
namespace Go.Proofs.YtkibkaoffgnmkaaGreatDoor
set_option linter.unusedVariables false
set_option linter.unusedSimpArgs false
set_option maxRecDepth 100000
set_option maxHeartbeats 200000000
open Go.ChangeShapes Go.WideShapes Go.ChangeAt Go.RowKit
theorem all_take {p : Xp → Bool} {l : List Xp} {k : Nat} (hk : k < l.length) (h : (l.take k).all p = true) (hp : p l[k] = true) : (l.take (k + 1)).all p = true := by
 rw [List.take_succ_eq_append_getElem hk, List.all_append, h]
 simp [hp]
theorem all_no {p : Xp → Bool} {l : List Xp} {k : Nat} (hk : k < l.length) (hp : p l[k] = false) : l.all p = false := by
 rw [Bool.eq_false_iff]
 intro h
 have := List.all_eq_true.1 h l[k] (List.getElem_mem hk)
 rw [hp] at this; cases this
theorem may_any : ∀ (d : Nat) (G : Nat → Prop) (e : Xp) (v : Value) (w : World), d ≤ 1000 → IsE G w v e → Tb w →
  Calls Tryz.prog 156 #[v, .int .i64 (d : Int)] w fun r w' => r = .returned (.bool (mayB d e)) ∧ Below w.heap.size w w' := by
 intro d
 induction d with
 | zero =>
  intro G e v w _ hE hT
  cases hE with
  | mk ho hl hk =>
   rw [show ∀ x, mayB 0 x = false from fun _ => rfl]
   go_enter Tryz.func156, Tryz.ntmps156
   go_wp2
   go_ret
   exact ⟨rfl, aB (Below.refl _ _) _⟩
 | succ d ih =>
  intro G e v w hd hE hT
  cases hE with
  | @mk k n s o l ma cap ho hl hk =>
   have hF := fits_any k n s o ma l.length cap ho
   cases hf : fitB k n s o l.length with
   | false =>
    rw [show mayB (d + 1) (.mk k n s o l) = (fitB k n s o l.length && l.all (mayB d)) from rfl, hf, Bool.false_and]
    rw [hf] at hF
    clear ih
    go_enter Tryz.func156, Tryz.ntmps156
    go_wp2_with (go_at_call 171; ((with_reducible refine (hF _ (hT.alloc _)).mono ?_); (rintro e w1 ⟨rfl, hb⟩)))
    go_ret
    exact ⟨rfl, tr (aB (Below.refl _ _) _) hb⟩
   | true =>
    rw [show mayB (d + 1) (.mk k n s o l) = (fitB k n s o l.length && l.all (mayB d)) from rfl, hf, Bool.true_and]
    rw [hf] at hF
    have HIH := Lib.hid ih
    have hw : IntKind.i64.wrap (((d + 1 : Nat) : Int) - 1) = (d : Int) := by rw [IntKind.wrap_i64]; omega
    have hd0 : (((d + 1 : Nat) : Int) == 0) = false := by simp only [beq_eq_false_iff_ne]; omega
    obtain ⟨D, hD⟩ : ∃ D : Int, D = ((d + 1 : Nat) : Int) := ⟨_, rfl⟩
    rw [← hD] at hw hd0 ⊢
    have HK := Lib.hid hk
    obtain ⟨N, hN⟩ : ∃ N, N = l.length := ⟨_, rfl⟩
    rw [← hN] at hF hl ⊢
    have HN := Lib.hid hN
    clear ih hD hk hf hN
    go_enter Tryz.func156, Tryz.ntmps156
    go_wp2_with (go_at_call 171; ((with_reducible refine (hF _ (hT.alloc _)).mono ?_); (rintro e w1 ⟨rfl, hb⟩); obtain ⟨hc, hf⟩ := bcell hb; have hz := hz1 hb))
    clear hF
    have hB1 : Below w.heap.size w w1 := tr (aB (Below.refl _ _) _) hb
    clear hb hc hf
    go_loopw [17] (fun i wr => ∃ k : Nat, k ≤ N ∧ i = .int .i64 (k : Int) ∧ Hid ((l.take k).all (mayB d) = true) ∧ Below w.heap.size w wr) (fun i _ => N - (intOf i).toNat)
    case atStart => exact ⟨0, Nat.zero_le _, rfl, Lib.hid (by simp), hB1⟩
    case round =>
     obtain ⟨j, hj, rfl, hall, hB⟩ := hrel
     by_cases hlt : j < N
     ·have hlt' : j < l.length := by rw [← HN.out]; exact hlt
      obtain ⟨b, off, rfl⟩ := kids_some HK.out (by omega)
      obtain ⟨ma', cap', c0, c1, c2, c3, c4, hE'⟩ := (kids_at l b off HK.out j hlt').isE
      have hbl := World.block_lt_of_cell? w _ c0
      have q0 := stay hB c0
      have q1 := stay hB c1
      have q2 := stay hB c2
      have q3 := stay hB c3
      have q4 := stay hB c4
      have hbl' : b < wr.heap.size := Nat.lt_of_lt_of_le hbl hB.size
      have hI := HIH.out G l[j] _ (wr.alloc (.cells #[.int .u8 (l[j].k : Int), .int .u64 (l[j].n : Int), .string (str l[j].s), .int .u8 (l[j].o : Int), .slice ma' l[j].l.length cap'] 47)) (by omega) ((hE'.of hB).of (aB (Below.refl _ _) _)) ((hT.of hB).alloc _)
      clear hE' c0 c1 c2 c3 c4
      cases hp : mayB d l[j] with
      | false =>
       rw [hp] at hI
       have hA := Lib.hid (all_no hlt' hp)
       clear hp
       go_wp2_with (go_at_call 156; ((with_reducible refine hI.mono ?_); (rintro e w2 ⟨rfl, hb2⟩)))
       go_ret
       exact ⟨by rw [hA.out]; rfl, tr (aB hB _) hb2⟩
      | true =>
       rw [hp] at hI
       have hA := Lib.hid (all_take hlt' hall.out hp)
       clear hp
       go_wp2_with (go_at_call 156; ((with_reducible refine hI.mono ?_); (rintro e w2 ⟨rfl, hb2⟩)))
       go_roundw
       case rel => exact ⟨j + 1, by omega, by go_num, hA, tr (aB hB _) hb2⟩
       case measure => simp [intOf]; omega
     ·obtain rfl : j = N := by omega
      have hA := Lib.hid hall.out
      go_wp2
      go_ret
      exact ⟨by rw [← hA.out, List.take_of_length_le (by rw [HN.out]; exact Nat.le_refl _)]; rfl, hB⟩
theorem check_any (G : Nat → Prop) (e : Xp) (v : Value) (w : World) (hE : IsE G w v e) (hT : Tb w) :
  Calls Tryz.prog 129 #[v] w fun r w' => r = .returned (.int .i64 (if mayB 40 e = true then 0 else 2)) ∧ Below w.heap.size w w' := by
 have hM : ∀ o, Calls Tryz.prog 156 #[v, .int .i64 40] (w.alloc o) fun r w' => r = .returned (.bool (mayB 40 e)) ∧ Below (w.alloc o).heap.size (w.alloc o) w' := fun o => may_any 40 G e v (w.alloc o) (by omega) (hE.of (aB (Below.refl _ _) _)) (hT.alloc _)
 cases hE with
 | @mk k n s o l ma cap ho hl hk =>
  generalize mayB 40 (.mk k n s o l) = c at hM
  clear hk
  cases c
  ·go_enter Tryz.func129, Tryz.ntmps129
   go_wp2_with (go_at_call 156; ((with_reducible refine (hM _).mono ?_); (rintro e w1 ⟨rfl, hb⟩)))
   go_ret
   exact ⟨rfl, tr (aB (Below.refl _ _) _) hb⟩
  ·go_enter Tryz.func129, Tryz.ntmps129
   go_wp2_with (go_at_call 156; ((with_reducible refine (hM _).mono ?_); (rintro e w1 ⟨rfl, hb⟩)))
   go_ret
   exact ⟨rfl, tr (aB (Below.refl _ _) _) hb⟩
def ob (v : Value) (T : List (Tk × Int)) : Option Nat := if T = [] then none else v.ownBlock
theorem RowZ.onlyo {w w' : World} {v : Value} {T : List (Tk × Int)} {S : Nat → Prop} (h : RowZ w v T) (ho : Only S w w') (hn : ∀ j, ob v T = some j → ¬ S j) : RowZ w' v T := by
 by_cases e : T = []
 ·subst e
  obtain ⟨ma, c, rfl, hc⟩ := h.row
  exact ⟨ma, c, rfl, fun i hi => by simp at hi⟩
 ·exact h.only ho (fun j hj => hn j (by unfold ob; rw [if_neg e]; exact hj))
structure IsRd (w : World) (rb : Nat) (v : Value) (T : List (Tk × Int)) (p d : Int) : Prop where
 c0 : w.cell? ⟨rb, 0, none⟩ = some v
 c1 : w.cell? ⟨rb, 1, none⟩ = some (.int .i64 p)
 c2 : w.cell? ⟨rb, 2, none⟩ = some (.int .i64 d)
 f : ∀ k, w.frozen? ⟨rb, k, none⟩ = false
 row : RowZ w v T
 ne : ¬ ob v T = some rb
 len : T.length ≤ 140737488355328
 lo : -9223372036854775808 ≤ p
 hi : p < 9223372036854775808
theorem IsRd.lt {w : World} {rb : Nat} {v : Value} {T : List (Tk × Int)} {p d : Int} (h : IsRd w rb v T p d) : rb < w.heap.size := World.block_lt_of_cell? w _ h.c0
theorem IsRd.of {w w' : World} {rb : Nat} {v : Value} {T : List (Tk × Int)} {p d : Int} (h : IsRd w rb v T p d) (hb : Below w.heap.size w w') : IsRd w' rb v T p d :=
 { h with c0 := stay hb h.c0, c1 := stay hb h.c1, c2 := stay hb h.c2, f := fun k => ((hb.frozen (p := ⟨rb, k, none⟩) h.lt).trans (h.f k)), row := h.row.of hb }
theorem IsRd.only {w w' : World} {rb : Nat} {v : Value} {T : List (Tk × Int)} {p d : Int} {S : Nat → Prop} (h : IsRd w rb v T p d) (ho : Only S w w') (h1 : ¬ S rb) (h2 : ∀ j, ob v T = some j → ¬ S j) : IsRd w' rb v T p d :=
 { h with c0 := ho.cell h1 h.c0, c1 := ho.cell h1 h.c1, c2 := ho.cell h1 h.c2, f := fun k => ((ho.frozen (a := ⟨rb, k, none⟩) h.lt h1).trans (h.f k)), row := h.row.onlyo ho h2 }
theorem only_one (w : World) (b o : Nat) (v : Value) : Only (fun j => j = b) w (w.setCell ⟨b, o, none⟩ v) := (Only.refl _ w).setCell rfl
def tokAt (T : List (Tk × Int)) (p : Int) : Tk := if 0 ≤ p then (T.getD p.toNat (⟨0, [], 0⟩, 0)).1 else ⟨0, [], 0⟩
abbrev tokV (t : Tk) : Value := .agg #[.int .u8 (t.k : Int), .string (str t.t), .int .u64 (t.n : Int), .int .i64 0]
structure TkP (w w' : World) (rb : Nat) (v : Value) (T : List (Tk × Int)) (p d : Int) : Prop where
 rd : IsRd w' rb v T p d
 only : Only (fun j => j = rb) w w'
theorem IsRd.row_sl {w : World} {rb : Nat} {v : Value} {T : List (Tk × Int)} {p d : Int} (h : IsRd w rb v T p d) : ∃ ma c, v = .slice ma T.length c := by
 obtain ⟨ma, c, hv, _⟩ := h.row.row
 exact ⟨ma, c, hv⟩
theorem IsRd.np {w : World} {rb : Nat} {v : Value} {T : List (Tk × Int)} {p d : Int} (h : IsRd w rb v T p d) {b : Nat} {a : Option Addr} (hb : w.cell? ⟨b, 0, none⟩ = some (.pointer a)) : ¬ b = rb := by
 intro e
 subst e
 obtain ⟨ma, c, hv⟩ := h.row_sl
 have := h.c0.symm.trans hb
 rw [hv] at this
 cases this
def kindN (T : List (Tk × Int)) (p : Int) : Nat := if (tokAt T p).k = 3 then 1 else if tokAt T p = sg [35] then 4 else if tokAt T p = sg [40] then 3 else if tokAt T (p + 1) = sg [91] then 5 else 2
def SgF (w : World) (rb : Nat) (s : List UInt8) (f : Value) : Prop := ∃ br bs, f = .func (.func 203) #[] #[.pointer (some ⟨br, 0, none⟩), .pointer (some ⟨bs, 0, none⟩)] ∧ w.cell? ⟨br, 0, none⟩ = some (.pointer (some ⟨rb, 0, none⟩)) ∧ w.cell? ⟨bs, 0, none⟩ = some (.string (str s))
theorem SgF.of {w w' : World} {rb : Nat} {s : List UInt8} {f : Value} (h : SgF w rb s f) (hb : Below w.heap.size w w') : SgF w' rb s f := by
 obtain ⟨br, bs, rfl, h1, h2⟩ := h
 exact ⟨br, bs, rfl, stay hb h1, stay hb h2⟩
abbrev bnd (f rb : Nat) : Value := .func (.func f) #[.pointer (some ⟨rb, 0, none⟩)] #[]
def GB (j : Nat) : Prop := j = 4 ∨ j = 2 ∨ j = 5 ∨ j = 0 ∨ j = 7 ∨ j = 8 ∨ j = 9 ∨ j = 1
theorem var_only {S : Nat → Prop} {w w' : World} (ho : Only S w w') {n : String} {g : Nat} {cs : Array Value} (hg : Tryz.prog.globalNamed n = some g) (hn : ¬ S g) (h : w.var? Tryz.prog n = some cs) : w'.var? Tryz.prog n = some cs := by
 unfold World.var? at h ⊢
 rw [hg] at h ⊢
 simp only [Option.bind_some] at h ⊢
 have hlt : g < w.heap.size := by
  rcases Nat.lt_or_ge g w.heap.size with h1 | h1
  ·exact h1
  ·rw [Array.getElem?_eq_none h1] at h; simp at h
 rw [ho.block g hlt hn]
 exact h
theorem Tb.only {S : Nat → Prop} {w w' : World} (h : Tb w) (ho : Only S w w') (hn : ∀ j, GB j → ¬ S j) : Tb w' :=
 ⟨fun j hj => ho.cell (hn _ (by unfold GB; simp)) (h.words j hj), fun j hj => ho.cell (hn _ (by unfold GB; simp)) (h.signs j hj), var_only ho (g := 5) (by kernel_rfl) (hn _ (by unfold GB; simp)) h.pow, ho.cell (hn _ (by unfold GB; simp)) h.ety,
  let ⟨a, b, c⟩ := h.syn; ⟨a, b, var_only ho (g := 7) (by kernel_rfl) (hn _ (by unfold GB; simp)) c⟩, let ⟨a, b, c⟩ := h.ran; ⟨a, b, var_only ho (g := 8) (by kernel_rfl) (hn _ (by unfold GB; simp)) c⟩, fun j hj => ho.cell (hn _ (by unfold GB; simp)) (h.esg j hj), fun j hj => ho.cell (hn _ (by unfold GB; simp)) (h.kn j hj)⟩
theorem var_lt {w : World} {n : String} {g : Nat} {cs : Array Value} (hg : Tryz.prog.globalNamed n = some g) (h : w.var? Tryz.prog n = some cs) : g < w.heap.size := by
 unfold World.var? at h
 rw [hg] at h
 simp only [Option.bind_some] at h
 rcases Nat.lt_or_ge g w.heap.size with h1 | h1
 ·exact h1
 ·rw [Array.getElem?_eq_none h1] at h; simp at h
theorem Tb.lt {w : World} (h : Tb w) {j : Nat} (hj : GB j) : j < w.heap.size := by
 rcases hj with rfl | rfl | rfl | rfl | rfl | rfl | rfl | rfl
 ·exact World.block_lt_of_cell? w _ (h.words 0 (by omega))
 ·exact World.block_lt_of_cell? w _ (h.signs 0 (by omega))
 ·exact var_lt (by kernel_rfl) h.pow
 ·exact World.block_lt_of_cell? w _ h.ety
 ·obtain ⟨a, b, c⟩ := h.syn; exact var_lt (by kernel_rfl) c
 ·obtain ⟨a, b, c⟩ := h.ran; exact var_lt (by kernel_rfl) c
 ·exact World.block_lt_of_cell? w _ (h.esg 0 (by omega))
 ·exact World.block_lt_of_cell? w _ (h.kn 0 (by omega))
structure Bx (w : World) (eb rb : Nat) (v : Option Nat) (c0 c1 c2 c3 c4 : Value) : Prop where
 row : rowG #[c0, c1, c2, c3, c4] w eb
 n1 : ¬ eb = rb
 n2 : ¬ v = some eb
theorem Bx.e {w : World} {eb rb : Nat} {v : Option Nat} {c0 c1 c2 c3 c4 : Value} (h : Bx w eb rb v c0 c1 c2 c3 c4) : w.cell? ⟨eb, 0, none⟩ = some c0 ∧ w.cell? ⟨eb, 1, none⟩ = some c1 ∧ w.cell? ⟨eb, 2, none⟩ = some c2 ∧ w.cell? ⟨eb, 3, none⟩ = some c3 ∧ w.cell? ⟨eb, 4, none⟩ = some c4 ∧ eb < w.heap.size ∧ ∀ k, w.frozen? ⟨eb, k, none⟩ = false :=
 ⟨h.row.1 0 (by simp), h.row.1 1 (by simp), h.row.1 2 (by simp), h.row.1 3 (by simp), h.row.1 4 (by simp), h.row.2.2, h.row.2.1⟩
theorem Bx.of {w w' : World} {eb rb : Nat} {v : Option Nat} {c0 c1 c2 c3 c4 : Value} (h : Bx w eb rb v c0 c1 c2 c3 c4) (hb : Below w.heap.size w w') : Bx w' eb rb v c0 c1 c2 c3 c4 := { h with row := rowG_b h.row hb }
theorem Bx.only {w w' : World} {eb rb : Nat} {v : Option Nat} {c0 c1 c2 c3 c4 : Value} {S : Nat → Prop} (h : Bx w eb rb v c0 c1 c2 c3 c4) (ho : Only S w w') (hs : ¬ S eb) : Bx w' eb rb v c0 c1 c2 c3 c4 := { h with row := rowG_only h.row ho hs }
structure PtP (w w' : World) (eb rb : Nat) (v : Value) (T : List (Tk × Int)) (p d : Int) (c0 c1 c2 c3 c4 : Value) : Prop where
 rd : IsRd w' rb v T p d
 bx : Bx w' eb rb (ob v T) c0 c1 c2 c3 c4
 only : Only (fun j => j = rb ∨ j = eb) w w'
theorem PtP.post {w w1 w' : World} {eb rb : Nat} {v : Value} {T : List (Tk × Int)} {p d : Int} {c0 c1 c2 c3 c4 : Value} (ho : Only (fun j => j = rb ∨ j = eb) w w1) (h : Bx w1 eb rb (ob v T) c0 c1 c2 c3 c4) (k : TkP w1 w' rb v T p d) : PtP w w' eb rb v T p d c0 c1 c2 c3 c4 :=
 ⟨k.rd, h.only k.only h.n1, ho.trans (k.only.mono fun j hj => .inl hj)⟩
theorem Only.cut {S : Nat → Prop} {a b : World} (h : Only (fun j => S j ∨ a.heap.size ≤ j) a b) : Only S a b :=
 ⟨h.os, h.tape, h.output, h.size, fun j hj hs => h.block j hj (fun hh => hh.elim hs (fun h1 => absurd hj (by omega)))⟩
structure KdC (w1 w' : World) (rb eb B : Nat) (v : Value) (T : List (Tk × Int)) (q d : Int) (c0 c1 c2 c3 lv lv' : Value) (N : Nat) (xs : List Value) : Prop where
 rd : IsRd w' rb v T q d
 bx : Bx w' eb rb (ob v T) c0 c1 c2 c3 lv'
 own : w'.ownsRow B 47 5 lv' N xs
 blk : ∀ j, lv'.ownBlock = some j → lv.ownBlock = some j ∨ w1.heap.size ≤ j
 only : Only (fun j => j = eb ∨ lv.ownBlock = some j) w1 w'
abbrev zX : Value := .agg #[.int .u8 0, .int .u64 0, .string ⟨#[]⟩, .int .u8 0, .slice none 0 0]
abbrev vX (k n : Int) (s : ByteArray) (o : Int) (ma : Option Addr) (m cap : Nat) : Value := .agg #[.int .u8 k, .int .u64 n, .string s, .int .u8 o, .slice ma m cap]
def bareZ (T : List (Tk × Int)) : List Tk := T.map (·.1)
def ExEr (w : World) (rb : Nat) (v : Value) (T : List (Tk × Int)) (c q : Int) (e : Ending) (w' : World) : Prop :=
 e = .returned (.tuple #[zX, .int .i64 c]) ∧ (∃ d', IsRd w' rb v T q d') ∧ Only (fun j => j = rb) w w'
def ExOk (w : World) (rb : Nat) (v : Value) (T : List (Tk × Int)) (d : Int) (x : Xp) (q : Int) (e : Ending) (w' : World) : Prop :=
 ∃ (k n : Int) (s : ByteArray) (o : Int) (ma : Option Addr) (m cap : Nat), e = .returned (.tuple #[vX k n s o ma m cap, .int .i64 0]) ∧ IsRd w' rb v T q d ∧ Only (fun j => j = rb) w w' ∧ IsE (fun b => w.heap.size ≤ b ∧ b < w'.heap.size) w' (vX k n s o ma m cap) x
def ExP (w : World) (rb : Nat) (v : Value) (T : List (Tk × Int)) (d : Int) (R : Ro) (e : Ending) (w' : World) : Prop :=
 match R with
 | .er c q => ExEr w rb v T (c : Int) (q : Int) e w'
 | .ok x q => ExOk w rb v T d x (q : Int) e w'
structure Kr1 (w : World) (eb B : Nat) (lv : Value) (x : Xp) : Prop where
 kid : ∃ (g cap' : Nat) (k n : Int) (s : ByteArray) (o : Int) (ma : Option Addr) (m cap : Nat), lv = .slice (some ⟨g, 0, none⟩) 1 cap' ∧ w.ownsRow B 47 5 lv 1 [.int .u8 k, .int .u64 n, .string s, .int .u8 o, .slice ma m cap] ∧ ¬ g = eb ∧
  IsE (fun c => B ≤ c ∧ c < w.heap.size ∧ ¬ c = eb ∧ ¬ c = g) w (vX k n s o ma m cap) x
structure Kr2 (w : World) (eb B : Nat) (lv : Value) (x y : Xp) : Prop where
 kid : ∃ (g cap' : Nat) (k n : Int) (s : ByteArray) (o : Int) (ma : Option Addr) (m cap : Nat) (k2 n2 : Int) (s2 : ByteArray) (o2 : Int) (ma2 : Option Addr) (m2 cap2 : Nat), lv = .slice (some ⟨g, 0, none⟩) 2 cap' ∧
  w.ownsRow B 47 5 lv 2 [.int .u8 k, .int .u64 n, .string s, .int .u8 o, .slice ma m cap, .int .u8 k2, .int .u64 n2, .string s2, .int .u8 o2, .slice ma2 m2 cap2] ∧ ¬ g = eb ∧
  IsE (fun c => B ≤ c ∧ c < w.heap.size ∧ ¬ c = eb ∧ ¬ c = g) w (vX k n s o ma m cap) x ∧ IsE (fun c => B ≤ c ∧ c < w.heap.size ∧ ¬ c = eb ∧ ¬ c = g) w (vX k2 n2 s2 o2 ma2 m2 cap2) y
theorem Kr1.only {w w' : World} {eb rb B : Nat} {lv : Value} {x : Xp} (h : Kr1 w eb B lv x) (ho : Only (fun j => j = rb ∨ j = eb) w w') (hr : rb < B) : Kr1 w' eb B lv x := by
 obtain ⟨g, cap', k, n, s, o, ma, m, cap, rfl, hown, hge, hE⟩ := h.kid
 have hg : B ≤ g := (own_lt hown rfl).1
 refine ⟨g, cap', k, n, s, o, ma, m, cap, rfl, own_only hown ho (fun j hj e => ?_), hge, ?_⟩
 ·simp only [Value.ownBlock, Option.some.injEq] at hj
  subst hj
  rcases e with e | e
  ·omega
  ·exact hge e
 ·exact (hE.only ho (fun b hb e => by rcases e with e | e; · omega
                                      · exact hb.2.2.1 e)).mono (fun b hb => ⟨hb.1, Nat.lt_of_lt_of_le hb.2.1 ho.size, hb.2.2⟩)
theorem Kr2.only {w w' : World} {eb rb B : Nat} {lv : Value} {x y : Xp} (h : Kr2 w eb B lv x y) (ho : Only (fun j => j = rb ∨ j = eb) w w') (hr : rb < B) : Kr2 w' eb B lv x y := by
 obtain ⟨g, cap', k, n, s, o, ma, m, cap, k2, n2, s2, o2, ma2, m2, cap2, rfl, hown, hge, hE, hE2⟩ := h.kid
 have hg : B ≤ g := (own_lt hown rfl).1
 have hs : ∀ b, (B ≤ b ∧ b < w.heap.size ∧ ¬ b = eb ∧ ¬ b = g) → ¬ (b = rb ∨ b = eb) := fun b hb e => by
  rcases e with e | e
  ·omega
  ·exact hb.2.2.1 e
 refine ⟨g, cap', k, n, s, o, ma, m, cap, k2, n2, s2, o2, ma2, m2, cap2, rfl, own_only hown ho (fun j hj e => ?_), hge, (hE.only ho hs).mono (fun b hb => ⟨hb.1, Nat.lt_of_lt_of_le hb.2.1 ho.size, hb.2.2⟩), (hE2.only ho hs).mono (fun b hb => ⟨hb.1, Nat.lt_of_lt_of_le hb.2.1 ho.size, hb.2.2⟩)⟩
 simp only [Value.ownBlock, Option.some.injEq] at hj
 subst hj
 rcases e with e | e
 ·omega
 ·exact hge e
theorem kid_of {G : Nat → Prop} {w : World} {g off : Nat} {k n : Int} {s : ByteArray} {o : Int} {ma : Option Addr} {m cap : Nat} {x : Xp} {r : List Xp} (hE : IsE G w (vX k n s o ma m cap) x) (hg : G g) (c0 : w.cell? ⟨g, off, none⟩ = some (.int .u8 k)) (c1 : w.cell? ⟨g, off + 1, none⟩ = some (.int .u64 n))
  (c2 : w.cell? ⟨g, off + 2, none⟩ = some (.string s)) (c3 : w.cell? ⟨g, off + 3, none⟩ = some (.int .u8 o)) (c4 : w.cell? ⟨g, off + 4, none⟩ = some (.slice ma m cap)) (hr : KidsAt G w r (some ⟨g, off + 5, none⟩)) : KidsAt G w (x :: r) (some ⟨g, off, none⟩) := by
 cases hE with
 | mk ho hl hk => exact .cons hg c0 c1 c2 c3 c4 ho hl hk hr
theorem Kr1.kids {w : World} {eb B : Nat} {lv : Value} {x : Xp} (h : Kr1 w eb B lv x) : ∃ g cap', lv = .slice (some ⟨g, 0, none⟩) 1 cap' ∧ KidsAt (fun b => B ≤ b ∧ b < w.heap.size) w [x] (some ⟨g, 0, none⟩) := by
 obtain ⟨g, cap', k, n, s, o, ma, m, cap, rfl, hown, hge, hE⟩ := h.kid
 have hg : B ≤ g ∧ g < w.heap.size := own_lt hown rfl
 refine ⟨g, cap', rfl, kid_of (hE.mono fun b hb => ⟨hb.1, hb.2.1⟩) ⟨hg.1, hg.2⟩ ?_ ?_ ?_ ?_ ?_ .nil⟩
 ·exact hown.cellAt 0 (by decide)
 ·exact hown.cellAt 1 (by decide)
 ·exact hown.cellAt 2 (by decide)
 ·exact hown.cellAt 3 (by decide)
 ·exact hown.cellAt 4 (by decide)
theorem Kr2.kids {w : World} {eb B : Nat} {lv : Value} {x y : Xp} (h : Kr2 w eb B lv x y) : ∃ g cap', lv = .slice (some ⟨g, 0, none⟩) 2 cap' ∧ KidsAt (fun b => B ≤ b ∧ b < w.heap.size) w [x, y] (some ⟨g, 0, none⟩) := by
 obtain ⟨g, cap', k, n, s, o, ma, m, cap, k2, n2, s2, o2, ma2, m2, cap2, rfl, hown, hge, hE, hE2⟩ := h.kid
 have hg : B ≤ g ∧ g < w.heap.size := own_lt hown rfl
 refine ⟨g, cap', rfl, kid_of (hE.mono fun b hb => ⟨hb.1, hb.2.1⟩) ⟨hg.1, hg.2⟩ ?_ ?_ ?_ ?_ ?_ (kid_of (hE2.mono fun b hb => ⟨hb.1, hb.2.1⟩) ⟨hg.1, hg.2⟩ ?_ ?_ ?_ ?_ ?_ .nil)⟩
 ·exact hown.cellAt 0 (by decide)
 ·exact hown.cellAt 1 (by decide)
 ·exact hown.cellAt 2 (by decide)
 ·exact hown.cellAt 3 (by decide)
 ·exact hown.cellAt 4 (by decide)
 ·exact hown.cellAt 5 (by decide)
 ·exact hown.cellAt 6 (by decide)
 ·exact hown.cellAt 7 (by decide)
 ·exact hown.cellAt 8 (by decide)
 ·exact hown.cellAt 9 (by decide)
def KdE (w : World) (rb eb : Nat) (v : Value) (T : List (Tk × Int)) (B : Nat) (c q : Int) (e : Ending) (w' : World) : Prop :=
 e = .returned (.int .i64 c) ∧ (∃ d', IsRd w' rb v T q d') ∧ Only (fun j => j = rb ∨ j = eb ∨ B ≤ j) w w'
def Kd1 (w : World) (rb eb : Nat) (v : Value) (T : List (Tk × Int)) (B : Nat) (d : Int) (c0 c1 c2 c3 : Value) (x : Xp) (q : Int) (e : Ending) (w' : World) : Prop :=
 e = .returned (.int .i64 0) ∧ IsRd w' rb v T q d ∧ Only (fun j => j = rb ∨ j = eb ∨ B ≤ j) w w' ∧ ∃ lv', Bx w' eb rb (ob v T) c0 c1 c2 c3 lv' ∧ Kr1 w' eb B lv' x
def Kd2 (w : World) (rb eb : Nat) (v : Value) (T : List (Tk × Int)) (B : Nat) (d : Int) (c0 c1 c2 c3 : Value) (x y : Xp) (q : Int) (e : Ending) (w' : World) : Prop :=
 e = .returned (.int .i64 0) ∧ IsRd w' rb v T q d ∧ Only (fun j => j = rb ∨ j = eb ∨ B ≤ j) w w' ∧ ∃ lv', Bx w' eb rb (ob v T) c0 c1 c2 c3 lv' ∧ Kr2 w' eb B lv' x y
def placeZ (T : List (Tk × Int)) (p : Int) : Int := if p < 0 then 0 else (T.getD (min p.toNat (T.length - 1)) (⟨0, [], 0⟩, 0)).2
def agX (e : Xp) (ma : Option Addr) (cap : Nat) : Value := .agg #[.int .u8 (e.k : Int), .int .u64 (e.n : Int), .string (str e.s), .int .u8 (e.o : Int), .slice ma e.l.length cap]
def CopyP (w : World) (e : Xp) (r : Ending) (w' : World) : Prop := (∃ ma cap, r = .returned (agX e ma cap) ∧ IsE (fun b => w.heap.size ≤ b ∧ b < w'.heap.size) w' (agX e ma cap) e) ∧ Below w.heap.size w w'
end Go.Proofs.YtkibkaoffgnmkaaGreatDoor
