/- Contract of the reader of programs: a program. -/
import Derived.Test.YtfbjljcmmbdhkaaGreatDoorD43
import Derived.Recover
namespace Go.Proofs.YtfbjljcmmbdhkaaGreatDoor
set_option linter.unusedVariables false
set_option linter.unusedSimpArgs false
set_option maxRecDepth 100000
set_option maxHeartbeats 200000000
open Go.ChangeShapes Go.WideShapes Go.ChangeAt Go.RowKit
theorem IsFd.mv {G G' : Nat → Prop} {w w' : World} {v : Value} {x : Fd} (h : IsFd G w v x) (hg : ∀ b, G b → G' b) (hc : ∀ b o v, G b → w.cell? ⟨b, o, none⟩ = some v → w'.cell? ⟨b, o, none⟩ = some v) : IsFd G' w' v x := by
 cases h with
 | mk hp hb hr hP hB hR => exact .mk hp hb hr (hP.mv hg hc) (hB.mv hg hc) (hR.mv hg hc)
theorem IsFd.of {G : Nat → Prop} {w w' : World} {v : Value} {x : Fd} (h : IsFd G w v x) (hb : Below w.heap.size w w') : IsFd G w' v x := h.mv (fun _ h => h) (fun b o v _ hc => stay hb hc)
theorem IsFd.only {G S : Nat → Prop} {w w' : World} {v : Value} {x : Fd} (h : IsFd G w v x) (ho : Only S w w') (hs : ∀ b, G b → ¬ S b) : IsFd G w' v x := h.mv (fun _ h => h) (fun b o v hg hc => ho.cell (hs b hg) hc)
theorem IsFd.mono {G G' : Nat → Prop} {w : World} {v : Value} {x : Fd} (h : IsFd G w v x) (hg : ∀ b, G b → G' b) : IsFd G' w v x := h.mv hg (fun _ _ _ _ h => h)
structure Fx where
 nm : List UInt8
 mp : Option Addr
 np : Nat
 cp : Nat
 mb : Option Addr
 nb : Nat
 cb : Nat
 sec : Bool
 mr : Option Addr
 nr : Nat
 cr : Nat
 x : Fd
def Fx.cells (K : Fx) : List Value := [.string (str K.nm), .slice K.mp K.np K.cp, .slice K.mb K.nb K.cb, .bool K.sec, .slice K.mr K.nr K.cr]
def Fx.is (G : Nat → Prop) (w : World) (K : Fx) : Prop := IsFd G w (.agg #[.string (str K.nm), .slice K.mp K.np K.cp, .slice K.mb K.nb K.cb, .bool K.sec, .slice K.mr K.nr K.cr]) K.x
def fxs (L : List Fx) : List Value := L.flatMap Fx.cells
theorem xZv (a b : List Fx) : fxs (a ++ b) = fxs a ++ fxs b := by simp [fxs]
theorem jXn (L : List Fx) : ∀ u ∈ fxs L, u.oneCell' = true := by
 intro u hu
 unfold fxs at hu
 obtain ⟨K, _, hp⟩ := List.mem_flatMap.1 hu
 unfold Fx.cells at hp
 simp only [List.mem_cons, List.not_mem_nil, or_false] at hp
 rcases hp with rfl | rfl | rfl | rfl | rfl <;> rfl
theorem fxs_at : ∀ (L : List Fx) (i : Nat) (h : i < L.length) (r : Nat) (hr : r < 5), (fxs L)[i * 5 + r]? = L[i].cells[r]? := by
 intro L
 induction L with
 | nil => intro i h; simp at h
 | cons K L ih =>
  intro i h r hr
  cases i with
  | zero =>
   have hc : r = 0 ∨ r = 1 ∨ r = 2 ∨ r = 3 ∨ r = 4 := by omega
   rcases hc with rfl | rfl | rfl | rfl | rfl <;> rfl
  | succ i =>
   have := ih i (by simpa using h) r hr
   rw [show (i + 1) * 5 + r = (i * 5 + r) + 1 + 1 + 1 + 1 + 1 by omega]
   exact this
theorem vf_fx {w w' : World} {u : Value} {x : Fd} (h : VF w w' u x) : ∃ K : Fx, u = .agg #[.string (str K.nm), .slice K.mp K.np K.cp, .slice K.mb K.nb K.cb, .bool K.sec, .slice K.mr K.nr K.cr] ∧ K.x = x ∧ K.is (fun b => w.heap.size ≤ b ∧ b < w'.heap.size) w' := by
 cases h with
 | @mk nm ps bd sec rt mp mb mr cp cb cr hp hb hr hP hB hR => exact ⟨⟨nm, mp, ps.length, cp, mb, bd.length, cb, sec, mr, rt.length, cr, ⟨nm, ps, bd, sec, rt⟩⟩, rfl, rfl, .mk hp hb hr hP hB hR⟩
def FdsAt (G : Nat → Prop) (w : World) (l : List Fd) (ma : Option Addr) : Prop := ∀ i (h : i < l.length), ∃ (b o : Nat) (K : Fx), ma = some ⟨b, o, none⟩ ∧ G b ∧ K.x = l[i] ∧ K.is G w ∧ ∀ r u, K.cells[r]? = some u → w.cell? ⟨b, o + i * 5 + r, none⟩ = some u
theorem FdsAt.mv {G G' : Nat → Prop} {w w' : World} {l : List Fd} {ma : Option Addr} (h : FdsAt G w l ma) (hg : ∀ b, G b → G' b) (hc : ∀ b o v, G b → w.cell? ⟨b, o, none⟩ = some v → w'.cell? ⟨b, o, none⟩ = some v) : FdsAt G' w' l ma := fun i hi => by
 obtain ⟨b, o, K, e, hb, hx, hK, h1⟩ := h i hi
 exact ⟨b, o, K, e, hg _ hb, hx, IsFd.mv hK hg hc, fun r u hu => hc _ _ _ hb (h1 r u hu)⟩
theorem FdsAt.of {G : Nat → Prop} {w w' : World} {l : List Fd} {ma : Option Addr} (h : FdsAt G w l ma) (hb : Below w.heap.size w w') : FdsAt G w' l ma := h.mv (fun _ h => h) (fun b o v _ hc => stay hb hc)
theorem FdsAt.only {G S : Nat → Prop} {w w' : World} {l : List Fd} {ma : Option Addr} (h : FdsAt G w l ma) (ho : Only S w w') (hs : ∀ b, G b → ¬ S b) : FdsAt G w' l ma := h.mv (fun _ h => h) (fun b o v hg hc => ho.cell (hs b hg) hc)
theorem FdsAt.mono {G G' : Nat → Prop} {w : World} {l : List Fd} {ma : Option Addr} (h : FdsAt G w l ma) (hg : ∀ b, G b → G' b) : FdsAt G' w l ma := h.mv hg (fun _ _ _ _ h => h)
theorem FdsAt.nil {G : Nat → Prop} {w : World} {ma : Option Addr} : FdsAt G w [] ma := fun i h => by simp at h
theorem jQa {w : World} {B M : Nat} {a : Option Addr} {c : Nat} {L : List Fx} (h : w.ownsRow B 43 5 (.slice a M c) M (fxs L)) (hM : M = L.length) (hK : ∀ K ∈ L, K.is (fun b => B ≤ b ∧ b < w.heap.size ∧ ¬ (Value.slice a M c).ownBlock = some b) w) :
 FdsAt (fun b => B ≤ b ∧ b < w.heap.size) w (L.map (·.x)) a := fun i hi => by
 have hi' : i < L.length := by simpa using hi
 obtain ⟨g, cg, e, hg1, hg2⟩ := h.form (by omega)
 simp only [Value.slice.injEq, true_and] at e
 obtain ⟨rfl, rfl⟩ := e
 refine ⟨g, 0, L[i], rfl, ⟨hg1, hg2⟩, by simp, IsFd.mono (hK _ (List.getElem_mem hi')) (fun b hb => ⟨hb.1, hb.2.1⟩), fun r u hu => ?_⟩
 have hr : r < 5 := by
  have := (List.getElem?_eq_some_iff.1 hu).1
  simpa [Fx.cells] using this
 rw [Nat.zero_add, h.cellAt (i * 5 + r) (by omega), fxs_at L i hi' r hr]
 exact hu
theorem xXs {g H : Nat} {w w5 : World} {lv : Value} (hg : w.grownBy w5 lv.ownBlock) (hat : lv.ownBlock = some g ∨ g = H) (hH : w.heap.size = H) {B : Nat} (L : List Fx)
 (h : ∀ K ∈ L, K.is (fun b => B ≤ b ∧ b < w.heap.size ∧ ¬ lv.ownBlock = some b) w) (n cap : Nat) :
 ∀ K ∈ L, K.is (fun b => B ≤ b ∧ b < w5.heap.size ∧ ¬ (Value.slice (some ⟨g, 0, none⟩) n cap).ownBlock = some b) w5 := by
 intro K hK
 have ho := zXc hg
 refine (IsFd.only (h K hK) ho (fun b hb e => hb.2.2 e.symm)).mono (fun b hb => ⟨hb.1, Nat.lt_of_lt_of_le hb.2.1 ho.size, fun e => ?_⟩)
 simp only [Value.ownBlock, Option.some.injEq] at e
 subst e
 rcases hat with h1 | h1
 ·exact hb.2.2 h1
 ·omega
def VG (w w' : World) (u : Value) (l : List Fd) : Prop := ∃ ma cap, u = .agg #[.slice ma l.length cap] ∧ l.length ≤ 16 ∧ FdsAt (fun b => w.heap.size ≤ b ∧ b < w'.heap.size) w' l ma
theorem jJv : (Tryz.prog.info? 43).map (fun i => (i.zero, i.size, i.bytes)) = some (some (.agg #[.string ⟨#[]⟩, .slice none 0 0, .slice none 0 0, .bool false, .slice none 0 0]), 5, 96) := by kernel_rfl
def qQj (w : World) (g : Nat) : Nat := match w.cell? ⟨g, 0, none⟩ with
 | some v => yXc v
 | none => 0
theorem yJv {w : World} {rb mb : Nat} {v : Value} {T : List (Tk × Int)} (h : IsRs w rb mb v T 0 0 0) :
 Calls Tryz.prog 64 #[.pointer (some ⟨rb, 0, none⟩)] w (RP VG w rb mb v T 0 (proR (zQb T))) := by
 obtain ⟨i0, hi, hz0, hz1, hz2⟩ := info_parts jJv
 have hrl := h.rl
 unfold proR
 obtain ⟨R, hR⟩ : ∃ R, proL (zQb T) 17 [] 0 0 = R := ⟨_, rfl⟩
 rw [hR]
 go_enter Tryz.func64, Tryz.ntmps64
 go_wp2
 obtain ⟨W, hW⟩ : ∃ W, w.alloc (.cells #[.slice none 0 0] 24) = W := ⟨_, rfl⟩
 have hIW : IsRs W rb mb v T 0 0 0 := by rw [← hW]; exact h.of (aB (Below.refl _ _) _)
 have hPW : Only (fun j => j = rb) w W := by rw [← hW]; exact ob1 rb (aB (Below.refl _ _) _)
 have hSW : rowG #[.slice none 0 0] W w.heap.size := by rw [← hW]; exact zQf _ _ _ _ rfl
 rw [hW]
 clear hW
 go_loopw [] (fun wr => ∃ (L : List Fx) (M f p n : Nat) (a : Option Addr) (c : Nat), M = L.length ∧ M ≤ 16 ∧ f + M = 17 ∧ proL (zQb T) f (L.map (·.x)) p n = R ∧ wr.ownsRow (w.heap.size + 1) 43 5 (.slice a M c) M (fxs L) ∧ rowG #[.slice a M c] wr w.heap.size ∧ IsRs wr rb mb v T p 0 n ∧ Only (fun j => j = rb) w wr ∧ Hid (∀ K ∈ L, K.is (fun b => w.heap.size + 1 ≤ b ∧ b < wr.heap.size ∧ ¬ (Value.slice a M c).ownBlock = some b) wr)) (fun wr => 17 - qQj wr w.heap.size)
 case atStart => exact ⟨[], 0, 17, 0, 0, none, 0, rfl, by omega, rfl, hR, World.ownsRow_nil _ _ _ _, hSW, hIW, hPW, Lib.hid (fun K hK => by simp at hK)⟩
 case round =>
  obtain ⟨L, M, f, p, n, a, c, hM, hM16, hfM, hRR, hown, hS, hI, hP, HK⟩ := hrel
  obtain ⟨f, rfl⟩ : ∃ f', f = f' + 1 := ⟨f - 1, by omega⟩
  have HM := Lib.hid hM
  have HF := Lib.hid hfM
  have H16 := Lib.hid hM16
  have hsr := hP.size
  obtain ⟨t, z, ht⟩ := hI.tok
  obtain ⟨b, o, N, cc, c0, hpN, hN, hb, q0, q1, q2, q3⟩ := ht.at_
  have c1 := hI.c1
  have hrl' := hI.rl
  have hs0 := hS.1 0 (by simp)
  have hsl := hS.2.2
  have hxl : (L.map (·.x)).length = M := by simp [HM.out]
  rw [proL, ht.knd_, hxl] at hRR
  have htx := ht.txt_
  clear ht
  by_cases hk : t.k = 5
  ·have h5 : ((t.k : Int) != 5) = false := by simp; omega
   rw [if_pos hk] at hRR
   clear hM hfM hM16 hk
   go_wp2
   go_quiet (fail)
   go_wp2_with (first
    | (with_reducible refine ld1p rfl _ rfl (w.heap.size) rfl (show rowG #[.slice a M c] _ _ from hS) ?_)
    | (with_reducible refine st1p rfl _ _ rfl (w.heap.size) rfl rfl hS ?_; intro wF hF hOF))
   have hOn : Only (fun j => w.heap.size ≤ j) (wr.drewN nq) wF := hOF.mono (fun j e => by have e2 : j = w.heap.size := e; omega)
   have hsF := hOF.size
   have hsF2 : wr.heap.size ≤ wF.heap.size := hsF
   rw [← hRR]
   refine bodyPost_ret (jKp rfl _ _ (w.heap.size) _ rfl hF) rfl ?_
   exact .ok ((zXn hP nq).old hOn (fun j hj => .inr hj)) (h.newer (hI.drewN nq) hOn) ⟨a, c, by rw [hxl], by rw [hxl]; exact H16.out, ((jQa hown HM.out HK.out).only (w' := wF) (S := fun j => j = w.heap.size) ((ob1 _ (bdN (Below.refl _ _) nq)).trans hOF) (fun b hb e => by have := hb.1; have e2 : b = w.heap.size := e; omega)).mono (fun b hb => ⟨by have := hb.1; omega, by have := hb.2; omega⟩)⟩
  have h5 : ((t.k : Int) != 5) = true := by simp; omega
  rw [if_neg hk] at hRR
  by_cases h16 : M = 16
  ·have e16 : ((M : Int) == 16) = true := by simp; omega
   by_cases hfn : txt (zQb T) p = wFn
   ·rw [if_pos ⟨h16, hfn⟩] at hRR
    have hN0 : ∀ {W : World}, IsRs W rb mb v T p 0 n → Calls Tryz.prog 112 #[.pointer (some ⟨rb, 0, none⟩), .string ⟨#[102, 110]⟩] W fun e w' => e = .returned (.bool true) ∧ ∃ k, w' = W.drewN k := fun hI => by have := xXl hI wFn; rw [yJd hfn] at this; exact this
    rw [← hRR]
    have hS5 := fun W (hW : IsRs W rb mb v T p 0 n) => zKo hW 5 5 rfl
    have hId := fun k => hI.drewN k
    clear hM hfM hM16 hk h16 hfn hRR
    go_wp2
    go_quiet (fail)
    go_wp2_with (first
     | (go_at_call 112; ((with_reducible refine (hN0 (hId nq)).mono ?_); (rintro e w3 ⟨rfl, k, rfl⟩)))
     | (go_at_call 113; ((with_reducible refine (hS5 _ (hId _)).mono ?_); (rintro e w5 ⟨he, k2, rfl⟩); (unfold Flt at he; subst he))))
    exact ⟨rfl, .er (zXn hP _)⟩
   ·rw [if_neg (fun e => hfn e.2)] at hRR
    have hfu : funR (zQb T) p n = .er 7 p := by unfold funR takR; rw [if_neg hfn]; rfl
    rw [hfu] at hRR
    simp only [Rz.next] at hRR
    rw [← hRR]
    have hN0 : ∀ {W : World}, IsRs W rb mb v T p 0 n → Calls Tryz.prog 112 #[.pointer (some ⟨rb, 0, none⟩), .string ⟨#[102, 110]⟩] W fun e w' => e = .returned (.bool false) ∧ ∃ k, w' = W.drewN k := fun hI => by have := xXl hI wFn; rw [yJe hfn] at this; exact this
    have hId := fun k => hI.drewN k
    clear hM hfM hM16 hk h16 hfn hRR
    go_wp2
    go_quiet (fail)
    go_wp2_with (go_at_call 112; ((with_reducible refine (hN0 (hId nq)).mono ?_); (rintro e w3 ⟨rfl, k, rfl⟩)))
    obtain ⟨wB, hwB⟩ : ∃ wB, wr.drewN (nq + k) = wB := ⟨_, rfl⟩
    have hIB : IsRs wB rb mb v T p 0 n := by rw [← hwB]; exact hI.drewN _
    have hOB : Only (fun j => j = rb) wr wB := by rw [← hwB]; exact zXn (Only.refl _ _) _
    have hPB := hP.trans hOB
    have hSB := zQa hS hOB (by omega)
    rw [hwB]
    clear hwB
    have hF0 : Only (fun j => j = rb) wB wB.drew := ob1 rb (bdd (Below.refl _ _))
    have hFi : ∀ w', Only (fun j => j = rb) wB w' → w'.cell? ⟨w.heap.size, 0, none⟩ = some (.slice a M c) ∧ w.heap.size < w'.heap.size := fun w' hO => ⟨(zQa hSB hO (by omega)).1 0 (by simp), (zQa hSB hO (by omega)).2.2⟩
    have hIc := hIB.of (bdd (Below.refl _ _))
    refine zKc (fun w' => Only (fun j => j = rb) wB w') 5 (by kernel_rfl) ?_
    refine zXt (i := 0) rfl (by kernel_rfl) (by kernel_rfl) (by kernel_rfl) (by decide) (fun _ _ _ _ h => h) (fun _ => hF0) (fun K hK => ?_)
    apply Exists.intro
    refine ⟨Or.inl ⟨by kernel_rfl, fun w' _ => ?_⟩, ?_⟩
    ·go_simp
     try exact rfl
    go_simp
    refine hK _ ?_
    clear hK K
    have q : Pq [1] := trivial
    refine tkF q rfl (by kernel_rfl) (fun _ _ _ _ h => h) hF0 fun K hK => ?_
    replace q := q.tl
    apply Exists.intro
    refine ⟨Or.inl ⟨by kernel_rfl, fun w' hf => ?_⟩, ?_⟩
    ·obtain ⟨k5, kl⟩ := hFi _ hf
     go_simp
     try exact rfl
    go_simp
    refine hK _ ?_
    clear hK K
    refine zXt (i := 2) rfl (by kernel_rfl) (by kernel_rfl) (by kernel_rfl) (by decide) (fun _ _ _ _ h => h) (fun _ => hF0) (fun K hK => ?_)
    apply Exists.intro
    refine ⟨Or.inl ⟨by kernel_rfl, fun w' _ => ?_⟩, ?_⟩
    ·go_simp
     try exact rfl
    go_simp
    refine hK _ ?_
    clear hK K
    refine zQv (k := 3) (by kernel_rfl) ?_
    refine wpOp_step rfl (fun K hK => ?_)
    go_simp
    go_at_call 114
    with_reducible refine (yZz hIc).mono ?_
    rintro e w5 ⟨hO5, hR5⟩
    rw [hfu] at hR5
    unfold Flt at hR5
    subst hR5
    exact ⟨rfl, .er (hPB.trans (hF0.trans hO5))⟩
  have e16 : ((M : Int) == 16) = false := by simp; omega
  rw [if_neg (fun e => h16 e.1)] at hRR
  have H16n := Lib.hid h16
  clear hM hfM hM16 hk h16
  go_wp2
  go_quiet (fail)
  go_wp2
  obtain ⟨wB, hwB⟩ : ∃ wB, wr.drewN nq = wB := ⟨_, rfl⟩
  have hIB : IsRs wB rb mb v T p 0 n := by rw [← hwB]; exact hI.drewN _
  have hOB : Only (fun j => j = rb) wr wB := by rw [← hwB]; exact zXn (Only.refl _ _) _
  have hPB := hP.trans hOB
  have hsB := hOB.size
  have hSB := zQa hS hOB (by omega)
  have hoB := zQy hown hOB (fun j hj e => by have := zQu hown hj; have e2 : j = rb := e; omega)
  rw [hwB]
  clear hwB hs0 hsl c0 c1 q0 q1 q2 q3
  have hF0 : Only (fun j => j = rb) wB wB.drew := ob1 rb (bdd (Below.refl _ _))
  have hFi : ∀ w', Only (fun j => j = rb) wB w' → w'.cell? ⟨w.heap.size, 0, none⟩ = some (.slice a M c) ∧ w.heap.size < w'.heap.size := fun w' hO => ⟨(zQa hSB hO (by omega)).1 0 (by simp), (zQa hSB hO (by omega)).2.2⟩
  have hIc := hIB.of (bdd (Below.refl _ _))
  refine zKc (fun w' => Only (fun j => j = rb) wB w') 5 (by kernel_rfl) ?_
  refine zXt (i := 0) rfl (by kernel_rfl) (by kernel_rfl) (by kernel_rfl) (by decide) (fun _ _ _ _ h => h) (fun _ => hF0) (fun K hK => ?_)
  apply Exists.intro
  refine ⟨Or.inl ⟨by kernel_rfl, fun w' _ => ?_⟩, ?_⟩
  ·go_simp
   try exact rfl
  go_simp
  refine hK _ ?_
  clear hK K
  have q : Pq [1] := trivial
  refine tkF q rfl (by kernel_rfl) (fun _ _ _ _ h => h) hF0 fun K hK => ?_
  replace q := q.tl
  apply Exists.intro
  refine ⟨Or.inl ⟨by kernel_rfl, fun w' hf => ?_⟩, ?_⟩
  ·obtain ⟨k5, kl⟩ := hFi _ hf
   go_simp
   try exact rfl
  go_simp
  refine hK _ ?_
  clear hK K
  refine zXt (i := 2) rfl (by kernel_rfl) (by kernel_rfl) (by kernel_rfl) (by decide) (fun _ _ _ _ h => h) (fun _ => hF0) (fun K hK => ?_)
  apply Exists.intro
  refine ⟨Or.inl ⟨by kernel_rfl, fun w' _ => ?_⟩, ?_⟩
  ·go_simp
   try exact rfl
  go_simp
  refine hK _ ?_
  clear hK K
  refine zQv (k := 3) (by kernel_rfl) ?_
  refine wpOp_step rfl (fun K hK => ?_)
  go_simp
  go_at_call 114
  with_reducible refine (yZz hIc).mono ?_
  rintro e w5 ⟨hO5, hR5⟩
  have hF5 := hF0.trans hO5
  have hP5 := hPB.trans hF5
  rcases r5 : funR (zQb T) p n with ⟨c5, q5⟩ | ⟨x5, q5, m5⟩
  ·rw [r5] at hR5 hRR; unfold Flt at hR5; subst hR5; simp only [Rz.next] at hRR; exact ⟨rfl, by rw [← hRR]; exact .er hP5⟩
  rw [r5] at hR5 hRR
  simp only [Rz.next] at hRR
  obtain ⟨hI5, z5, rfl, hV5⟩ := hR5
  obtain ⟨K5, rfl, e5, hK5⟩ := vf_fx hV5
  have hs5 := hF5.size
  have hS5 := zQa hSB hF5 (by omega)
  have ho5 := zQy hoB hF5 (fun j hj e => by have := zQu hoB hj; have e2 : j = rb := e; omega)
  refine hK _ _ ⟨fun _ => hF5, ?_⟩
  clear hK K
  refine zQv (k := 4) (by kernel_rfl) ?_
  refine wpOp_step rfl (fun K hK => ?_)
  go_simp
  refine hK _ _ ⟨fun _ => (zQc hF5 _), ?_⟩
  clear hK K
  refine zQv (k := 5) (by kernel_rfl) ?_
  refine wpOp_step rfl (fun K hK => ?_)
  refine step_append_lies _ rfl (.tmp 26) (.tmp 29) 22 rfl (w.heap.size + 1) 43 i0 _ 5 96 Tryz.underlying22 hi hz0 hz1 hz2 rfl (by decide) (.slice a M c) M (fxs L) rfl (ho5.alloc _) ⟨w5.heap.size, 0, none⟩ 1 1 (fxs [K5]) rfl rfl (zXe (fxs [K5]) 43 w5) (jXn _) (by decide) (by have := H16.out; unfold maxLen; omega) (by have := H16.out; omega) (by simp; omega) _ rfl ?_
  intro g cap' w6 hown6 hgrow hat hlt6
  have hba : Below w5.heap.size w5 (w5.alloc (.cells #[.string (str K5.nm), .slice K5.mp K5.np K5.cp, .slice K5.mb K5.nb K5.cb, .bool K5.sec, .slice K5.mr K5.nr K5.cr] 43)) := aB (Below.refl _ _) _
  have hog := zXc hgrow
  have hsz6 := hog.size
  simp only [World.size_alloc] at hsz6
  have hnew : ∀ j, some j = (Value.slice a M c).ownBlock → w.heap.size + 1 ≤ j := fun j hj => (zQu hoB hj.symm).1
  have hI6 : IsRs w6 rb mb v T q5 0 m5 := h.newer (hI5.of hba) (hog.mono (fun j hj => by have := hnew j hj; omega))
  have hP6 : Only (fun j => j = rb) w w6 := (hP5.trans (ob1 rb hba)).old hog (fun j hj => .inr (by have := hnew j hj; omega))
  have hS6 := zQa (zQj hS5 _) hog (fun e => by have := hnew _ e; omega)
  have f0 := hS6.1 0 (by simp)
  have ff := hS6.2.1
  have fl := hS6.2.2
  refine hK _ _ ⟨fun h => (Bool.false_ne_true (h.symm.trans (by kernel_rfl))).elim, ?_⟩
  clear hK K
  refine zQv (k := 6) (by kernel_rfl) ?_
  refine wpOp_step rfl (fun K hK => ?_)
  go_simp
  refine hK _ _ ⟨fun h => (Bool.false_ne_true (h.symm.trans (by kernel_rfl))).elim, ?_⟩
  clear hK K
  refine zQv (k := 7) (by kernel_rfl) ?_
  refine wpOp_step rfl (fun K hK => ?_)
  go_simp
  refine hK _ _ ⟨fun h => (Bool.false_ne_true (h.symm.trans (by kernel_rfl))).elim, ?_⟩
  clear hK K
  refine yQg (by kernel_rfl) ?_
  go_wp2
  go_roundw
  case rel =>
   obtain ⟨wC, hwC⟩ : ∃ wC, w6.setCell ⟨w.heap.size, 0, none⟩ (.slice (some ⟨g, 0, none⟩) (M + 1) cap') = wC := ⟨_, rfl⟩
   have hOC : Only (fun j => j = w.heap.size) w6 wC := by rw [← hwC]; exact os1 (or1 _ _) _ _
   have hSC : rowG #[.slice (some ⟨g, 0, none⟩) (M + 1) cap'] wC w.heap.size := by rw [← hwC]; exact jKj _ hS6
   have hsC := hOC.size
   rw [hwC]
   have hall : ∀ K ∈ L ++ [K5], K.is (fun b => w.heap.size + 1 ≤ b ∧ b < (w5.alloc (.cells #[.string (str K5.nm), .slice K5.mp K5.np K5.cp, .slice K5.mb K5.nb K5.cb, .bool K5.sec, .slice K5.mr K5.nr K5.cr] 43)).heap.size ∧ ¬ (Value.slice a M c).ownBlock = some b) (w5.alloc (.cells #[.string (str K5.nm), .slice K5.mp K5.np K5.cp, .slice K5.mb K5.nb K5.cb, .bool K5.sec, .slice K5.mr K5.nr K5.cr] 43)) := fun K hK => by
    rcases List.mem_append.1 hK with h1 | h1
    ·exact IsFd.mono (IsFd.of (IsFd.only (IsFd.only (HK.out K h1) hOB (fun b hb e => by have := hb.1; have e2 : b = rb := e; omega)) hF5 (fun b hb e => by have := hb.1; have e2 : b = rb := e; omega)) (aB (Below.refl _ _) _)) (fun b hb => ⟨hb.1, by have := hb.2.1; simp; omega, hb.2.2⟩)
    ·obtain rfl := List.mem_singleton.1 h1
     exact IsFd.mono (IsFd.of hK5 (aB (Below.refl _ _) _)) (fun b hb => ⟨by have := hb.1; have := hF0.size; have := hSB.2.2; omega, by have := hb.2; simp; omega, fun e => by have := zQu hoB e; have := hb.1; have := hF0.size; omega⟩)
   have hall6 := xXs hgrow hat (by simp) _ hall (M + 1) cap'
   exact ⟨L ++ [K5], M + 1, f, q5, m5, some ⟨g, 0, none⟩, cap', by simp [HM.out], by have := H16.out; have := H16n.out; omega, by have := HF.out; omega, by rw [← hRR]; simp [e5], by rw [xZv]; exact zQy hown6 hOC (fun j hj e => by have := zQu hown6 hj; have e2 : j = w.heap.size := e; omega), hSC, h.newer hI6 (hOC.mono (fun j e => by have e2 : j = w.heap.size := e; omega)), hP6.old hOC (fun j e => .inr (by have e2 : j = w.heap.size := e; omega)), Lib.hid (fun K hK => IsFd.mono (IsFd.only (hall6 K hK) hOC (fun b hb e => by have := hb.1; have e2 : b = w.heap.size := e; omega)) (fun b hb => ⟨hb.1, by have := hb.2.1; omega, hb.2.2⟩))⟩
  case measure =>
   have hc2 : (w6.setCell ⟨w.heap.size, 0, none⟩ (.slice (some ⟨g, 0, none⟩) (M + 1) cap')).cell? ⟨w.heap.size, 0, none⟩ = some (.slice (some ⟨g, 0, none⟩) (M + 1) cap') := (jKj _ hS6).1 0 (by simp)
   have hc1 : wr.cell? ⟨w.heap.size, 0, none⟩ = some (.slice a M c) := hS.1 0 (by simp)
   have := H16.out
   unfold qQj
   rw [hc1, hc2]
   simp only [yXc]
   omega
theorem run_ins {w : World} {mb : Nat} {es : Array MapEntry} {c : Nat} (hb : w.heap[mb]? = some (.map es c)) {s : ByteArray} {u : Value} (hf : Instr.findNow .string (.string s) es.toList 0 = some none) :
 (Instr.mapUpdate 116 (.map (some mb)) (.string s) u).run Tryz.prog w = .ok () { w with heap := w.heap.setIfInBounds mb (.map (es.push ⟨.string s, u, c⟩) (c + 1)) } := by
 have hc : (Instr.checkKey false 10000 9 (.string s)).run Tryz.prog w = .ok () w := MapKept.run_checkKey (P := Tryz.prog) (w := w) (kt := 9) (d := .string) (k := .string s) Tryz.underlying9 trivial false 9999
 have hf := MapKept.run_findKey (P := Tryz.prog) (w := w) (kt := 9) Tryz.underlying9 hf
 simp [Instr.mapUpdate, run_underlying tM, MapKept.run_getObj_map hb, hc, hf, MapKept.run_setObj_map _ hb, Result.andThen]
theorem zZg {ops : Array Oper} {rest : List Oper} {o : Oper} {a : Act} {w : World} {Q : Exit → Act → World → Prop} (hg : o.guard = none) (m x v : Operand) (hop : o.op = .insert 116 m x v) (mb : Nat) (hm : a.eval m = .map (some mb)) {s : ByteArray} (hx : a.eval x = .string s) {u : Value} (hv : a.eval v = u)
 {es : Array MapEntry} {c : Nat} (hb : w.heap[mb]? = some (.map es c)) (hf : Instr.findNow .string (.string s) es.toList 0 = some none)
 (h : ∀ w', w'.heap[mb]? = some (.map (es.push ⟨.string s, u, c⟩) (c + 1)) → Only (fun j => j = mb) w w' → wpList Tryz.prog ops Q rest (a.put o.dst undef) w') : wpList Tryz.prog ops Q (o :: rest) a w := by
 refine wpList_plain hg fun K' hK' => ?_
 have hrun := run_ins (u := u) hb hf
 unfold Oper.wp
 simp [execOp, hop, hm, hx, hv, hrun, Result.andThen]
 refine hK' _ _ (h _ (MapKept.heap_set hb).1 ⟨rfl, rfl, rfl, by simp, fun j hj hn => (MapKept.heap_set hb).2 j hn⟩)
def rM (k : Nat) : Array MapEntry := (readsM.toList.take k).toArray
theorem fr0 : Instr.findNow .string (.string ⟨#[108, 101, 116]⟩) (rM 0).toList 0 = some none := by kernel_rfl
theorem pr0 : (rM 0).push ⟨.string ⟨#[108, 101, 116]⟩, (.func (.func 101) #[] #[]), 0⟩ = rM (0 + 1) := by kernel_rfl
theorem ins0 {ops : Array Oper} {rest : List Oper} {o : Oper} {a : Act} {w : World} {Q : Exit → Act → World → Prop} (hg : o.guard = none) (m : Operand) (hop : o.op = .insert 116 m (.const (.string ⟨#[108, 101, 116]⟩)) (.func 101)) (mb : Nat) (hm : a.eval m = .map (some mb)) (hb : w.heap[mb]? = some (.map (rM 0) 0))
 (h : ∀ w', w'.heap[mb]? = some (.map (rM (0 + 1)) (0 + 1)) → Only (fun j => j = mb) w w' → wpList Tryz.prog ops Q rest (a.put o.dst undef) w') : wpList Tryz.prog ops Q (o :: rest) a w :=
 zZg hg m _ _ hop mb hm (s := ⟨#[108, 101, 116]⟩) rfl (u := (.func (.func 101) #[] #[])) rfl hb fr0 (fun w' h1 => h w' (by rw [pr0] at h1; exact h1))
theorem fr1 : Instr.findNow .string (.string ⟨#[98, 117, 102]⟩) (rM 1).toList 0 = some none := by kernel_rfl
theorem pr1 : (rM 1).push ⟨.string ⟨#[98, 117, 102]⟩, (.func (.func 102) #[] #[]), 1⟩ = rM (1 + 1) := by kernel_rfl
theorem ins1 {ops : Array Oper} {rest : List Oper} {o : Oper} {a : Act} {w : World} {Q : Exit → Act → World → Prop} (hg : o.guard = none) (m : Operand) (hop : o.op = .insert 116 m (.const (.string ⟨#[98, 117, 102]⟩)) (.func 102)) (mb : Nat) (hm : a.eval m = .map (some mb)) (hb : w.heap[mb]? = some (.map (rM 1) 1))
 (h : ∀ w', w'.heap[mb]? = some (.map (rM (1 + 1)) (1 + 1)) → Only (fun j => j = mb) w w' → wpList Tryz.prog ops Q rest (a.put o.dst undef) w') : wpList Tryz.prog ops Q (o :: rest) a w :=
 zZg hg m _ _ hop mb hm (s := ⟨#[98, 117, 102]⟩) rfl (u := (.func (.func 102) #[] #[])) rfl hb fr1 (fun w' h1 => h w' (by rw [pr1] at h1; exact h1))
theorem fr2 : Instr.findNow .string (.string ⟨#[105, 102]⟩) (rM 2).toList 0 = some none := by kernel_rfl
theorem pr2 : (rM 2).push ⟨.string ⟨#[105, 102]⟩, (.func (.func 103) #[] #[]), 2⟩ = rM (2 + 1) := by kernel_rfl
theorem ins2 {ops : Array Oper} {rest : List Oper} {o : Oper} {a : Act} {w : World} {Q : Exit → Act → World → Prop} (hg : o.guard = none) (m : Operand) (hop : o.op = .insert 116 m (.const (.string ⟨#[105, 102]⟩)) (.func 103)) (mb : Nat) (hm : a.eval m = .map (some mb)) (hb : w.heap[mb]? = some (.map (rM 2) 2))
 (h : ∀ w', w'.heap[mb]? = some (.map (rM (2 + 1)) (2 + 1)) → Only (fun j => j = mb) w w' → wpList Tryz.prog ops Q rest (a.put o.dst undef) w') : wpList Tryz.prog ops Q (o :: rest) a w :=
 zZg hg m _ _ hop mb hm (s := ⟨#[105, 102]⟩) rfl (u := (.func (.func 103) #[] #[])) rfl hb fr2 (fun w' h1 => h w' (by rw [pr2] at h1; exact h1))
theorem fr3 : Instr.findNow .string (.string ⟨#[119, 104, 105, 108, 101]⟩) (rM 3).toList 0 = some none := by kernel_rfl
theorem pr3 : (rM 3).push ⟨.string ⟨#[119, 104, 105, 108, 101]⟩, (.func (.func 104) #[] #[]), 3⟩ = rM (3 + 1) := by kernel_rfl
theorem ins3 {ops : Array Oper} {rest : List Oper} {o : Oper} {a : Act} {w : World} {Q : Exit → Act → World → Prop} (hg : o.guard = none) (m : Operand) (hop : o.op = .insert 116 m (.const (.string ⟨#[119, 104, 105, 108, 101]⟩)) (.func 104)) (mb : Nat) (hm : a.eval m = .map (some mb)) (hb : w.heap[mb]? = some (.map (rM 3) 3))
 (h : ∀ w', w'.heap[mb]? = some (.map (rM (3 + 1)) (3 + 1)) → Only (fun j => j = mb) w w' → wpList Tryz.prog ops Q rest (a.put o.dst undef) w') : wpList Tryz.prog ops Q (o :: rest) a w :=
 zZg hg m _ _ hop mb hm (s := ⟨#[119, 104, 105, 108, 101]⟩) rfl (u := (.func (.func 104) #[] #[])) rfl hb fr3 (fun w' h1 => h w' (by rw [pr3] at h1; exact h1))
theorem fr4 : Instr.findNow .string (.string ⟨#[102, 111, 114]⟩) (rM 4).toList 0 = some none := by kernel_rfl
theorem pr4 : (rM 4).push ⟨.string ⟨#[102, 111, 114]⟩, (.func (.func 105) #[] #[]), 4⟩ = rM (4 + 1) := by kernel_rfl
theorem ins4 {ops : Array Oper} {rest : List Oper} {o : Oper} {a : Act} {w : World} {Q : Exit → Act → World → Prop} (hg : o.guard = none) (m : Operand) (hop : o.op = .insert 116 m (.const (.string ⟨#[102, 111, 114]⟩)) (.func 105)) (mb : Nat) (hm : a.eval m = .map (some mb)) (hb : w.heap[mb]? = some (.map (rM 4) 4))
 (h : ∀ w', w'.heap[mb]? = some (.map (rM (4 + 1)) (4 + 1)) → Only (fun j => j = mb) w w' → wpList Tryz.prog ops Q rest (a.put o.dst undef) w') : wpList Tryz.prog ops Q (o :: rest) a w :=
 zZg hg m _ _ hop mb hm (s := ⟨#[102, 111, 114]⟩) rfl (u := (.func (.func 105) #[] #[])) rfl hb fr4 (fun w' h1 => h w' (by rw [pr4] at h1; exact h1))
theorem fr5 : Instr.findNow .string (.string ⟨#[118, 105, 101, 119]⟩) (rM 5).toList 0 = some none := by kernel_rfl
theorem pr5 : (rM 5).push ⟨.string ⟨#[118, 105, 101, 119]⟩, (.func (.func 106) #[] #[]), 5⟩ = rM (5 + 1) := by kernel_rfl
theorem ins5 {ops : Array Oper} {rest : List Oper} {o : Oper} {a : Act} {w : World} {Q : Exit → Act → World → Prop} (hg : o.guard = none) (m : Operand) (hop : o.op = .insert 116 m (.const (.string ⟨#[118, 105, 101, 119]⟩)) (.func 106)) (mb : Nat) (hm : a.eval m = .map (some mb)) (hb : w.heap[mb]? = some (.map (rM 5) 5))
 (h : ∀ w', w'.heap[mb]? = some (.map (rM (5 + 1)) (5 + 1)) → Only (fun j => j = mb) w w' → wpList Tryz.prog ops Q rest (a.put o.dst undef) w') : wpList Tryz.prog ops Q (o :: rest) a w :=
 zZg hg m _ _ hop mb hm (s := ⟨#[118, 105, 101, 119]⟩) rfl (u := (.func (.func 106) #[] #[])) rfl hb fr5 (fun w' h1 => h w' (by rw [pr5] at h1; exact h1))
theorem fr6 : Instr.findNow .string (.string ⟨#[101, 100, 105, 116]⟩) (rM 6).toList 0 = some none := by kernel_rfl
theorem pr6 : (rM 6).push ⟨.string ⟨#[101, 100, 105, 116]⟩, (.func (.func 107) #[] #[]), 6⟩ = rM (6 + 1) := by kernel_rfl
theorem ins6 {ops : Array Oper} {rest : List Oper} {o : Oper} {a : Act} {w : World} {Q : Exit → Act → World → Prop} (hg : o.guard = none) (m : Operand) (hop : o.op = .insert 116 m (.const (.string ⟨#[101, 100, 105, 116]⟩)) (.func 107)) (mb : Nat) (hm : a.eval m = .map (some mb)) (hb : w.heap[mb]? = some (.map (rM 6) 6))
 (h : ∀ w', w'.heap[mb]? = some (.map (rM (6 + 1)) (6 + 1)) → Only (fun j => j = mb) w w' → wpList Tryz.prog ops Q rest (a.put o.dst undef) w') : wpList Tryz.prog ops Q (o :: rest) a w :=
 zZg hg m _ _ hop mb hm (s := ⟨#[101, 100, 105, 116]⟩) rfl (u := (.func (.func 107) #[] #[])) rfl hb fr6 (fun w' h1 => h w' (by rw [pr6] at h1; exact h1))
theorem fr7 : Instr.findNow .string (.string ⟨#[109, 111, 118, 101]⟩) (rM 7).toList 0 = some none := by kernel_rfl
theorem pr7 : (rM 7).push ⟨.string ⟨#[109, 111, 118, 101]⟩, (.func (.func 108) #[] #[]), 7⟩ = rM (7 + 1) := by kernel_rfl
theorem ins7 {ops : Array Oper} {rest : List Oper} {o : Oper} {a : Act} {w : World} {Q : Exit → Act → World → Prop} (hg : o.guard = none) (m : Operand) (hop : o.op = .insert 116 m (.const (.string ⟨#[109, 111, 118, 101]⟩)) (.func 108)) (mb : Nat) (hm : a.eval m = .map (some mb)) (hb : w.heap[mb]? = some (.map (rM 7) 7))
 (h : ∀ w', w'.heap[mb]? = some (.map (rM (7 + 1)) (7 + 1)) → Only (fun j => j = mb) w w' → wpList Tryz.prog ops Q rest (a.put o.dst undef) w') : wpList Tryz.prog ops Q (o :: rest) a w :=
 zZg hg m _ _ hop mb hm (s := ⟨#[109, 111, 118, 101]⟩) rfl (u := (.func (.func 108) #[] #[])) rfl hb fr7 (fun w' h1 => h w' (by rw [pr7] at h1; exact h1))
theorem fr8 : Instr.findNow .string (.string ⟨#[111, 112, 101, 110]⟩) (rM 8).toList 0 = some none := by kernel_rfl
theorem pr8 : (rM 8).push ⟨.string ⟨#[111, 112, 101, 110]⟩, (.func (.func 109) #[] #[]), 8⟩ = rM (8 + 1) := by kernel_rfl
theorem ins8 {ops : Array Oper} {rest : List Oper} {o : Oper} {a : Act} {w : World} {Q : Exit → Act → World → Prop} (hg : o.guard = none) (m : Operand) (hop : o.op = .insert 116 m (.const (.string ⟨#[111, 112, 101, 110]⟩)) (.func 109)) (mb : Nat) (hm : a.eval m = .map (some mb)) (hb : w.heap[mb]? = some (.map (rM 8) 8))
 (h : ∀ w', w'.heap[mb]? = some (.map (rM (8 + 1)) (8 + 1)) → Only (fun j => j = mb) w w' → wpList Tryz.prog ops Q rest (a.put o.dst undef) w') : wpList Tryz.prog ops Q (o :: rest) a w :=
 zZg hg m _ _ hop mb hm (s := ⟨#[111, 112, 101, 110]⟩) rfl (u := (.func (.func 109) #[] #[])) rfl hb fr8 (fun w' h1 => h w' (by rw [pr8] at h1; exact h1))
theorem fr9 : Instr.findNow .string (.string ⟨#[99, 97, 108, 108]⟩) (rM 9).toList 0 = some none := by kernel_rfl
theorem pr9 : (rM 9).push ⟨.string ⟨#[99, 97, 108, 108]⟩, (.func (.func 110) #[] #[]), 9⟩ = rM (9 + 1) := by kernel_rfl
theorem ins9 {ops : Array Oper} {rest : List Oper} {o : Oper} {a : Act} {w : World} {Q : Exit → Act → World → Prop} (hg : o.guard = none) (m : Operand) (hop : o.op = .insert 116 m (.const (.string ⟨#[99, 97, 108, 108]⟩)) (.func 110)) (mb : Nat) (hm : a.eval m = .map (some mb)) (hb : w.heap[mb]? = some (.map (rM 9) 9))
 (h : ∀ w', w'.heap[mb]? = some (.map (rM (9 + 1)) (9 + 1)) → Only (fun j => j = mb) w w' → wpList Tryz.prog ops Q rest (a.put o.dst undef) w') : wpList Tryz.prog ops Q (o :: rest) a w :=
 zZg hg m _ _ hop mb hm (s := ⟨#[99, 97, 108, 108]⟩) rfl (u := (.func (.func 110) #[] #[])) rfl hb fr9 (fun w' h1 => h w' (by rw [pr9] at h1; exact h1))
theorem fr10 : Instr.findNow .string (.string ⟨#[115, 101, 97, 108]⟩) (rM 10).toList 0 = some none := by kernel_rfl
theorem pr10 : (rM 10).push ⟨.string ⟨#[115, 101, 97, 108]⟩, (.func (.func 111) #[] #[]), 10⟩ = rM (10 + 1) := by kernel_rfl
theorem ins10 {ops : Array Oper} {rest : List Oper} {o : Oper} {a : Act} {w : World} {Q : Exit → Act → World → Prop} (hg : o.guard = none) (m : Operand) (hop : o.op = .insert 116 m (.const (.string ⟨#[115, 101, 97, 108]⟩)) (.func 111)) (mb : Nat) (hm : a.eval m = .map (some mb)) (hb : w.heap[mb]? = some (.map (rM 10) 10))
 (h : ∀ w', w'.heap[mb]? = some (.map (rM (10 + 1)) (10 + 1)) → Only (fun j => j = mb) w w' → wpList Tryz.prog ops Q rest (a.put o.dst undef) w') : wpList Tryz.prog ops Q (o :: rest) a w :=
 zZg hg m _ _ hop mb hm (s := ⟨#[115, 101, 97, 108]⟩) rfl (u := (.func (.func 111) #[] #[])) rfl hb fr10 (fun w' h1 => h w' (by rw [pr10] at h1; exact h1))
theorem run_mk (w : World) : (Instr.makeMap 116 none).run Tryz.prog w = .ok (.map (some w.heap.size)) (w.alloc (.map #[] 0)) := by kernel_rfl
theorem reads_any (w : World) : Calls Tryz.prog 63 #[] w fun e w' => e = .returned (.map (some w.heap.size)) ∧ w'.heap[w.heap.size]? = some (.map readsM 11) ∧ Below w.heap.size w w' := by
 have hm : (w.alloc (.map #[] 0)).heap[w.heap.size]? = some (.map (rM 0) 0) := by show (w.heap.push _)[w.heap.size]? = _; simp [rM]
 have hA : Only (fun j => j = w.heap.size) (w.alloc (.map #[] 0)) (w.alloc (.map #[] 0)) := Only.refl _ _
 have hmk := run_mk w
 go_enter Tryz.func63, Tryz.ntmps63
 go_wp2_with (first
  | (with_reducible refine ins0 rfl _ rfl (w.heap.size) rfl hm ?_; intro w1 hm2 hO; replace hA := hA.trans hO; clear hm; have hm := hm2; clear hm2 hO)
  | (with_reducible refine ins1 rfl _ rfl (w.heap.size) rfl hm ?_; intro w2 hm2 hO; replace hA := hA.trans hO; clear hm; have hm := hm2; clear hm2 hO)
  | (with_reducible refine ins2 rfl _ rfl (w.heap.size) rfl hm ?_; intro w3 hm2 hO; replace hA := hA.trans hO; clear hm; have hm := hm2; clear hm2 hO)
  | (with_reducible refine ins3 rfl _ rfl (w.heap.size) rfl hm ?_; intro w4 hm2 hO; replace hA := hA.trans hO; clear hm; have hm := hm2; clear hm2 hO)
  | (with_reducible refine ins4 rfl _ rfl (w.heap.size) rfl hm ?_; intro w5 hm2 hO; replace hA := hA.trans hO; clear hm; have hm := hm2; clear hm2 hO)
  | (with_reducible refine ins5 rfl _ rfl (w.heap.size) rfl hm ?_; intro w6 hm2 hO; replace hA := hA.trans hO; clear hm; have hm := hm2; clear hm2 hO)
  | (with_reducible refine ins6 rfl _ rfl (w.heap.size) rfl hm ?_; intro w7 hm2 hO; replace hA := hA.trans hO; clear hm; have hm := hm2; clear hm2 hO)
  | (with_reducible refine ins7 rfl _ rfl (w.heap.size) rfl hm ?_; intro w8 hm2 hO; replace hA := hA.trans hO; clear hm; have hm := hm2; clear hm2 hO)
  | (with_reducible refine ins8 rfl _ rfl (w.heap.size) rfl hm ?_; intro w9 hm2 hO; replace hA := hA.trans hO; clear hm; have hm := hm2; clear hm2 hO)
  | (with_reducible refine ins9 rfl _ rfl (w.heap.size) rfl hm ?_; intro w10 hm2 hO; replace hA := hA.trans hO; clear hm; have hm := hm2; clear hm2 hO)
  | (with_reducible refine ins10 rfl _ rfl (w.heap.size) rfl hm ?_; intro w11 hm2 hO; replace hA := hA.trans hO; clear hm; have hm := hm2; clear hm2 hO)
  )
 go_ret
 exact ⟨rfl, hm, (aB (Below.refl _ _) (.map #[] 0)).trans (hA.below (fun j hj => Nat.le_of_eq hj.symm) (by simp))⟩
end Go.Proofs.YtfbjljcmmbdhkaaGreatDoor
