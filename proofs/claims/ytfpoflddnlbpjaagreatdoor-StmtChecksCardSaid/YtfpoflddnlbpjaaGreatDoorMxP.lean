/- Contracts of the document's form and count. -/
import Derived.Test.YtfpoflddnlbpjaaGreatDoorMwP
import Derived.Test.YtfpoflddnlbpjaaGreatDoorYbP
import Derived.Test.YtfpoflddnlbpjaaGreatDoorZjP
namespace Go.Proofs.YtfpoflddnlbpjaaGreatDoor
open Go.ChangeShapes Go.WideShapes Go.ChangeAt Go.RowKit
set_option linter.unusedVariables false
mutual
def St.sb (B : Nat) : St → Prop
  | .mk _ nm fr _ _ ex ar bd el => nm.length ≤ B ∧ fr.length ≤ B ∧ sbL B ex ∧ (∀ s ∈ ar, s.length ≤ B) ∧ sbS B bd ∧ sbS B el
def sbS (B : Nat) : List St → Prop
  | [] => True
  | x :: r => x.sb B ∧ sbS B r
end
theorem sbS_iff {B : Nat} : ∀ {l : List St}, sbS B l ↔ ∀ x ∈ l, x.sb B
  | [] => by rw [sbS]; simp
  | x :: r => by rw [sbS, sbS_iff (l := r)]; simp
theorem sb_st {B : Nat} {s : St} (h : s.sb B) : s.nm.length ≤ B ∧ s.fr.length ≤ B ∧ sbL B s.ex ∧ (∀ t ∈ s.ar, t.length ≤ B) ∧ sbS B s.bd ∧ sbS B s.el := by cases s; rw [St.sb] at h; exact h
theorem frm_any (G : Nat → Prop) (v : Value) (s : St) (w : World) (hS : IsSt G w v s) (hsb : s.sb 140737488355328) :
    Calls Tryz.prog 55 #[v] w fun r w' => r = .returned (.bool (fitsB s)) ∧ Below w.heap.size w w' := by
  obtain ⟨s1, s2, s3, s4, -, -⟩ := sb_st hsb
  cases hS with
  | @mk k nm fr sec mu ex ar bd el mx ma mb ml cx ca cb cl hk hx ha hb hl hX hA hB hL =>
    rw [← form_fits]
    rcases hnd : ndsD k with ⟨ne, dn, df, ds, dm, db, dl, is⟩
    have hN := fun x => rnds_any k hk x
    rw [hnd] at hN
    have e := frm_core k nm fr sec mu mx ma mb ml ex.length ar.length bd.length el.length cx ca cb cl (ex.all (mayB 40)) (ar.all nmdB) (namedB fr df) (namedB nm dn) (nmdB nm) ((ex.length : Int) == ne) ne dn df ds dm db dl is w hx ha hN (fun x => rnd_any fr s2 df x) (fun x => rnd_any nm s1 dn x) (fun x => rnmd_str nm s1 x)
      (fun x hx' => by have := rex_any G ex s3 mx cx x (hX.of hx') hx (ex.length : Int); rw [beq_self_eq_true, Bool.and_true] at this; exact this)
      (fun x hx' => rex_any G ex s3 mx cx x (hX.of hx') hx ne) (fun x hx' => rns_any G ar s4 ma ca x (hA.of hx') ha)
      (by rw [ByteArray.toList_eq, str_list]; cases nm <;> simp)
    unfold formB badB
    rw [hnd]
    exact e
def optI : Option Nat → Int
  | none => -1
  | some n => (n : Int)
theorem rowS_le {one : St → Option Nat} (h : ∀ s n, one s = some n → n ≤ s.sz) : ∀ (l : List St) (n : Nat), rowS one l = some n → n ≤ szL l := by
  intro l
  induction l with
  | nil => intro n h; cases h; exact Nat.zero_le _
  | cons s r ih =>
    intro n hn
    rw [rowS] at hn
    cases h1 : one s with
    | none => rw [h1] at hn; cases hn
    | some a =>
      cases h2 : rowS one r with
      | none => rw [h1, h2] at hn; cases hn
      | some b =>
        rw [h1, h2] at hn
        simp only [Option.bind_some, Option.map_some, Option.some.injEq] at hn
        subst hn
        rw [szL]
        have := h _ _ h1
        have := ih _ h2
        omega
theorem cnt_le : ∀ (d : Nat) (l : List St) (n : Nat), cntR d l = some n → n ≤ szL l := by
  intro d
  induction d with
  | zero => intro l n h; cases l <;> simp [cntR] at h; subst h; exact Nat.zero_le _
  | succ d ih =>
    intro l n h
    rw [cntR_succ] at h
    refine rowS_le (fun s n hs => ?_) l n h
    unfold oneR at hs
    split at hs
    · cases h1 : cntR d s.bd with
      | none => rw [h1] at hs; cases hs
      | some a =>
        cases h2 : cntR d s.el with
        | none => rw [h1, h2] at hs; cases hs
        | some b =>
          rw [h1, h2] at hs
          simp only [Option.bind_some, Option.map_some, Option.some.injEq] at hs
          subst hs
          rw [sz_s]
          have := ih _ _ h1
          have := ih _ _ h2
          omega
    · cases hs
theorem szL_take (l : List St) (k : Nat) : szL (l.take k) ≤ szL l := by
  have e := List.take_append_drop k l
  have h : szL (l.take k ++ l.drop k) = szL l := by rw [e]
  have happ : ∀ (a b : List St), szL a ≤ szL (a ++ b) := by
    intro a b
    induction a with
    | nil => rw [szL]; exact Nat.zero_le _
    | cons x a ih => rw [List.cons_append, szL, szL]; omega
  have := happ (l.take k) (l.drop k)
  omega
set_option maxRecDepth 100000 in
set_option maxHeartbeats 8000000 in
theorem cnt_zero (l : List St) (ma : Option Addr) (cap : Nat) (w : World) (hl : l.length ≤ 140737488355328) :
    Calls Tryz.prog 27 #[.slice ma l.length cap, .int .i64 (41 - ((0 : Nat) : Int))] w fun r w' => r = .returned (.int .i64 (optI (cntR 0 l))) ∧ Below w.heap.size w w' := by
  obtain ⟨D, hD⟩ : ∃ D : Int, D = 41 - ((0 : Nat) : Int) := ⟨_, rfl⟩
  have hD4 : (40 : Int) < D := by omega
  rw [← hD]
  clear hD
  cases l with
  | nil =>
    go_enter Tryz.func27, Tryz.ntmps27
    go_wp2
    go_loopw [5, 6] (fun n i wr => n = .int .i64 0 ∧ i = .int .i64 0 ∧ w = wr) (fun _ _ _ => 0)
    case atStart => exact ⟨rfl, rfl, rfl⟩
    case round =>
      obtain ⟨rfl, rfl, rfl⟩ := hrel
      go_wp2
      go_ret
      exact ⟨rfl, Below.refl _ _⟩
  | cons x r =>
    have hp : (0 : Int) < (((x :: r).length : Nat) : Int) := by simp
    have hr : cntR 0 (x :: r) = none := rfl
    rw [hr]
    obtain ⟨N, hN⟩ : ∃ N, N = (x :: r).length := ⟨_, rfl⟩
    rw [← hN] at hp hl ⊢
    clear hN
    go_enter Tryz.func27, Tryz.ntmps27
    go_wp2
    go_loopw [5, 6] (fun n i wr => n = .int .i64 0 ∧ i = .int .i64 0 ∧ w = wr) (fun _ _ _ => 0)
    case atStart => exact ⟨rfl, rfl, rfl⟩
    case round =>
      obtain ⟨rfl, rfl, rfl⟩ := hrel
      go_wp2
      go_ret
      exact ⟨rfl, Below.refl _ _⟩
set_option maxRecDepth 100000 in
set_option maxHeartbeats 8000000 in
theorem cnt_any : ∀ (d : Nat) (G : Nat → Prop) (l : List St) (ma : Option Addr) (cap : Nat) (w : World), d ≤ 40 → StsAt G w l ma → sbS 140737488355328 l → szL l ≤ 900 → l.length ≤ 140737488355328 →
    Calls Tryz.prog 27 #[.slice ma l.length cap, .int .i64 (41 - (d : Int))] w fun r w' => r = .returned (.int .i64 (optI (cntR d l))) ∧ Below w.heap.size w w' := by
  intro d
  induction d with
  | zero => intro G l ma cap w _ _ _ _ hl; exact cnt_zero l ma cap w hl
  | succ d ih =>
    intro G l ma cap w hd hS hsb hsz hl
    have HIH := Lib.hid ih
    have HS := Lib.hid hS
    have HSB := Lib.hid (sbS_iff.1 hsb)
    have HZ := Lib.hid hsz
    have Hd := Lib.hid hd
    obtain ⟨R, hR⟩ : ∃ R, R = cntR (d + 1) l := ⟨_, rfl⟩
    rw [← hR]
    rw [cntR_succ] at hR
    have HR := Lib.hid hR
    obtain ⟨D, hD⟩ : ∃ D : Int, D = 41 - ((d + 1 : Nat) : Int) := ⟨_, rfl⟩
    obtain ⟨D1, hD1⟩ : ∃ D1 : Int, D1 = 41 - (d : Int) := ⟨_, rfl⟩
    have hD4 : ¬ (40 : Int) < D := by omega
    have hwd : IntKind.i64.wrap (D + 1) = D1 := by rw [IntKind.wrap_i64]; omega
    rw [← hD]
    have HD1 := Lib.hid hD1
    obtain ⟨N, hN⟩ : ∃ N, N = l.length := ⟨_, rfl⟩
    rw [← hN] at hl ⊢
    have HN := Lib.hid hN
    clear ih hS hsb hsz hd hD hD1 hN hR
    go_enter Tryz.func27, Tryz.ntmps27
    go_wp2
    go_loopw [5, 6] (fun nv i wr => ∃ k n : Nat, k ≤ N ∧ nv = .int .i64 (n : Int) ∧ i = .int .i64 (k : Int) ∧ Hid (rowS (oneR d) (l.take k) = some n) ∧ Below w.heap.size w wr) (fun _ i _ => N - (intOf i).toNat)
    case atStart => exact ⟨0, 0, Nat.zero_le _, rfl, rfl, Lib.hid rfl, Below.refl _ _⟩
    case round =>
      obtain ⟨k, n, hk, rfl, rfl, hrow, hB⟩ := hrel
      by_cases hlt : k < N
      · have hlt' : k < l.length := by rw [← HN.out]; exact hlt
        obtain ⟨b, o, K, rfl, hGb, hKx, hKi, hle, hnb, hnl, hBd, hEl, hbl, hll, hcells⟩ := sts_at l ma HS.out k hlt'
        have hrg := range_stay (sx_range (K := K) (b := b) (o := o + k * 9) (w := w) hcells) hB
        have hbw : b < wr.heap.size := Nat.lt_of_lt_of_le (World.block_lt_of_cell? w ⟨b, o + k * 9 + 0, none⟩ (hcells 0 _ rfl)) hB.size
        have hsz2 : (l[k]).sz ≤ 900 := Nat.le_trans (szL_mem (List.getElem_mem hlt')) HZ.out
        rw [sz_s] at hsz2
        have hsbk := HSB.out _ (List.getElem_mem hlt')
        obtain ⟨-, -, -, -, sb5, sb6⟩ := sb_st hsbk
        have hKr := IsSt.of hKi hB
        unfold Sx.is at hKr
        rw [hKx] at hKr
        have hFm := frm_any G _ l[k] wr hKr hsbk
        have hC1 := fun w' (hb : Below wr.heap.size wr w') => HIH.out G l[k].bd K.mb K.cb w' (by have := Hd.out; omega) ((hBd.of hB).of hb) sb5 (by omega) hbl
        have hC2 := fun w' (hb : Below wr.heap.size wr w') => HIH.out G l[k].el K.ml K.cl w' (by have := Hd.out; omega) ((hEl.of hB).of hb) sb6 (by omega) hll
        rw [← hnb, ← HD1.out] at hC1
        rw [← hnl, ← HD1.out] at hC2
        have hst := rowS_take (oneR d) hlt' hrow.out
        have hno := fun h => rowS_none (oneR d) hlt' h
        have hone : oneR d l[k] = if fitsB l[k] = true then (cntR d l[k].bd).bind fun a => (cntR d l[k].el).map fun b => 1 + a + b else none := rfl
        rw [hone] at hst hno
        have HLE : Hid (∀ m, rowS (oneR d) (l.take (k + 1)) = some m → m ≤ 900) := Lib.hid (fun m hm => Nat.le_trans (Nat.le_trans (cnt_le (d + 1) _ m (by rw [cntR_succ]; exact hm)) (szL_take l (k + 1))) HZ.out)
        have HST := Lib.hid hst
        have HNO := Lib.hid hno
        obtain ⟨ca, hca⟩ : ∃ ca, ca = cntR d l[k].bd := ⟨_, rfl⟩
        obtain ⟨ce, hce⟩ : ∃ ce, ce = cntR d l[k].el := ⟨_, rfl⟩
        rw [← hca] at hC1
        rw [← hce] at hC2
        have HCA := Lib.hid hca
        have HCE := Lib.hid hce
        obtain ⟨va, hva⟩ : ∃ va : Int, va = optI ca := ⟨_, rfl⟩
        obtain ⟨ve, hve⟩ : ∃ ve : Int, ve = optI ce := ⟨_, rfl⟩
        rw [← hva] at hC1
        rw [← hve] at hC2
        have HVA := Lib.hid hva
        have HVE := Lib.hid hve
        obtain ⟨fb, hfb⟩ : ∃ fb, fb = fitsB l[k] := ⟨_, rfl⟩
        rw [← hfb] at hFm
        have HFB := Lib.hid hfb
        obtain ⟨K0, K1, K2, K3, K4, K5, K6, K7, K8, K9, K10, K11, K12, K13, K14, K15, K16, K17⟩ := K
        simp only at hrg hFm hC1 hC2
        clear hKx hKi hle hnb hnl hBd hEl hbl hll hcells hsz2 hsbk sb5 sb6 hKr hst hno hone hca hce hva hve hfb hrow
        obtain ⟨q0, q1, q2, q3, q4, q5, q6, q7, q8⟩ := nineR hrg
        cases fb
        · go_wp2_with (first | (with_reducible refine ld9o rfl _ rfl b (o + k * 9) rfl hrg ?_) | (go_at_call 55; ((with_reducible refine hFm.mono ?_); (rintro e w2 ⟨rfl, hb2⟩))))
          go_ret
          have hRn : R = none := by rw [HR.out]; exact HNO.out (by rw [← HFB.out]; rfl)
          exact ⟨by rw [hRn]; rfl, tr hB hb2⟩
        · go_wp2_with (first | (with_reducible refine ld9o rfl _ rfl b (o + k * 9) rfl hrg ?_) | (go_at_call 55; ((with_reducible refine hFm.mono ?_); (rintro e w2 ⟨rfl, hb2⟩); (have p7 := stay hb2 q7); (have p8 := stay hb2 q8); (have pl := Nat.lt_of_lt_of_le hbw hb2.size); (clear q0 q1 q2 q3 q4 q5 q6 q7 q8 hrg hFm))))
          have hF0 : Below wr.heap.size wr w2.drew := bdN hb2 1
          have hFc := fun w' (hf : Below w2.heap.size w2 w') => show w'.cell? ⟨b, o + k * 9 + 7, none⟩ = some (.slice K11 K12 K13) ∧ w'.cell? ⟨b, o + k * 9 + 8, none⟩ = some (.slice K14 K15 K16) ∧ b < w'.heap.size from ⟨stay hf p7, stay hf p8, Nat.lt_of_lt_of_le pl hf.size⟩
          have hF1 : Below w2.heap.size w2 w2.drew := bdd (Below.refl _ _)
          clear p7 p8 pl
          refine region_K (fun w' => Below w2.heap.size w2 w') (by kernel_rfl) ?_
          refine wpAnyK_take (i := 0) rfl (by kernel_rfl) (by kernel_rfl) (by kernel_rfl) (fun _ _ _ _ h => h) hF1 (fun K hK => ?_)
          apply Exists.intro
          refine ⟨Or.inl ⟨by kernel_rfl, fun w' hf => ?_⟩, ?_⟩
          · skip
            go_simp
            try exact rfl
          go_simp
          refine hK _ ?_
          clear hK K
          refine wpAnyK_take (i := 1) rfl (by kernel_rfl) (by kernel_rfl) (by kernel_rfl) (fun _ _ _ _ h => h) hF1 (fun K hK => ?_)
          apply Exists.intro
          refine ⟨Or.inl ⟨by kernel_rfl, fun w' hf => ?_⟩, ?_⟩
          · skip
            go_simp
            try exact rfl
          go_simp
          refine hK _ ?_
          clear hK K
          refine wpAnyK_take (i := 2) rfl (by kernel_rfl) (by kernel_rfl) (by kernel_rfl) (fun _ _ _ _ h => h) hF1 (fun K hK => ?_)
          apply Exists.intro
          refine ⟨Or.inl ⟨by kernel_rfl, fun w' hf => ?_⟩, ?_⟩
          · skip
            go_simp
            try exact rfl
          go_simp
          refine hK _ ?_
          clear hK K
          refine wpAnyK_take (i := 3) rfl (by kernel_rfl) (by kernel_rfl) (by kernel_rfl) (fun _ _ _ _ h => h) hF1 (fun K hK => ?_)
          apply Exists.intro
          refine ⟨Or.inl ⟨by kernel_rfl, fun w' hf => ?_⟩, ?_⟩
          · skip
            go_simp
            try exact rfl
          go_simp
          refine hK _ ?_
          clear hK K
          refine wpAnyK_take (i := 4) rfl (by kernel_rfl) (by kernel_rfl) (by kernel_rfl) (fun _ _ _ _ h => h) hF1 (fun K hK => ?_)
          apply Exists.intro
          refine ⟨Or.inl ⟨by kernel_rfl, fun w' hf => ?_⟩, ?_⟩
          · obtain ⟨z7, z8, zl⟩ := hFc w' hf
            go_simp
            try exact rfl
          go_simp
          refine hK _ ?_
          clear hK K
          refine wpAnyK_take (i := 5) rfl (by kernel_rfl) (by kernel_rfl) (by kernel_rfl) (fun _ _ _ _ h => h) hF1 (fun K hK => ?_)
          apply Exists.intro
          refine ⟨Or.inl ⟨by kernel_rfl, fun w' hf => ?_⟩, ?_⟩
          · skip
            go_simp
            try exact rfl
          go_simp
          refine hK _ ?_
          clear hK K
          refine wpAnyK_take (i := 6) rfl (by kernel_rfl) (by kernel_rfl) (by kernel_rfl) (fun _ _ _ _ h => h) hF1 (fun K hK => ?_)
          apply Exists.intro
          refine ⟨Or.inl ⟨by kernel_rfl, fun w' hf => ?_⟩, ?_⟩
          · skip
            go_simp
            try exact rfl
          go_simp
          refine hK _ ?_
          clear hK K
          refine wpAnyK_take (i := 8) rfl (by kernel_rfl) (by kernel_rfl) (by kernel_rfl) (fun _ _ _ _ h => h) hF1 (fun K hK => ?_)
          apply Exists.intro
          refine ⟨Or.inl ⟨by kernel_rfl, fun w' hf => ?_⟩, ?_⟩
          · skip
            go_simp
            try exact rfl
          go_simp
          refine hK _ ?_
          clear hK K
          refine wpAnyK_take (i := 9) rfl (by kernel_rfl) (by kernel_rfl) (by kernel_rfl) (fun _ _ _ _ h => h) hF1 (fun K hK => ?_)
          apply Exists.intro
          refine ⟨Or.inl ⟨by kernel_rfl, fun w' hf => ?_⟩, ?_⟩
          · skip
            go_simp
            try exact rfl
          go_simp
          refine hK _ ?_
          clear hK K
          refine wpAnyK_take (i := 10) rfl (by kernel_rfl) (by kernel_rfl) (by kernel_rfl) (fun _ _ _ _ h => h) hF1 (fun K hK => ?_)
          apply Exists.intro
          refine ⟨Or.inl ⟨by kernel_rfl, fun w' hf => ?_⟩, ?_⟩
          · skip
            go_simp
            try exact rfl
          go_simp
          refine hK _ ?_
          clear hK K
          refine wpAnyK_take (i := 11) rfl (by kernel_rfl) (by kernel_rfl) (by kernel_rfl) (fun _ _ _ _ h => h) hF1 (fun K hK => ?_)
          apply Exists.intro
          refine ⟨Or.inl ⟨by kernel_rfl, fun w' hf => ?_⟩, ?_⟩
          · skip
            go_simp
            try exact rfl
          go_simp
          refine hK _ ?_
          clear hK K
          refine wpAnyK_take (i := 12) rfl (by kernel_rfl) (by kernel_rfl) (by kernel_rfl) (fun _ _ _ _ h => h) hF1 (fun K hK => ?_)
          apply Exists.intro
          refine ⟨Or.inl ⟨by kernel_rfl, fun w' hf => ?_⟩, ?_⟩
          · obtain ⟨z7, z8, zl⟩ := hFc w' hf
            go_simp
            try exact rfl
          go_simp
          refine hK _ ?_
          clear hK K
          refine wpAnyK_take (i := 13) rfl (by kernel_rfl) (by kernel_rfl) (by kernel_rfl) (fun _ _ _ _ h => h) hF1 (fun K hK => ?_)
          apply Exists.intro
          refine ⟨Or.inl ⟨by kernel_rfl, fun w' hf => ?_⟩, ?_⟩
          · skip
            go_simp
            try exact rfl
          go_simp
          refine hK _ ?_
          clear hK K
          refine wpAnyK_take (i := 14) rfl (by kernel_rfl) (by kernel_rfl) (by kernel_rfl) (fun _ _ _ _ h => h) hF1 (fun K hK => ?_)
          apply Exists.intro
          refine ⟨Or.inl ⟨by kernel_rfl, fun w' hf => ?_⟩, ?_⟩
          · skip
            go_simp
            try exact rfl
          go_simp
          refine hK _ ?_
          clear hK K
          refine wpAnyK_one (k := 7) (by kernel_rfl) ?_
          refine wpOp_step rfl (fun K hK => ?_)
          go_simp
          go_at_call 27
          with_reducible refine (hC1 _ hF0).mono ?_
          rintro e w3 ⟨rfl, hb3⟩
          have hF3 := hF1.trans (hb3.mono hF1.size)
          refine hK _ _ ⟨hF3, ?_⟩
          clear hK K
          refine wpAnyK_one (k := 15) (by kernel_rfl) ?_
          refine wpOp_step rfl (fun K hK => ?_)
          go_simp
          go_at_call 27
          with_reducible refine (hC2 _ (tr hb2 hF3)).mono ?_
          rintro e w4 ⟨rfl, hb4⟩
          have hF4 := hF3.trans (hb4.mono hF3.size)
          refine hK _ _ ⟨hF4, ?_⟩
          clear hK K
          refine wpAnyK_one (k := 16) (by kernel_rfl) ?_
          refine wpOp_step rfl (fun K hK => ?_)
          go_simp
          refine hK _ _ ⟨hF4, ?_⟩
          clear hK K
          refine wpAnyK_one (k := 17) (by kernel_rfl) ?_
          refine wpOp_step rfl (fun K hK => ?_)
          go_simp
          refine hK _ _ ⟨hF4, ?_⟩
          clear hK K
          refine wpAnyK_done (by kernel_rfl) ?_
          have hB4 := tr hB (tr hb2 hF4)
          clear hFc hF0 hF1 hF3 hF4 hC1 hC2
          cases ca with
          | none =>
            have hva : va < 0 := by rw [HVA.out]; decide
            go_wp2
            go_ret
            have hRn : R = none := by rw [HR.out]; exact HNO.out (by rw [← HFB.out, ← HCA.out]; rfl)
            exact ⟨by rw [hRn]; rfl, hB4⟩
          | some a0 =>
            have hva : va = (a0 : Int) := HVA.out
            subst hva
            have hva0 : ¬ (a0 : Int) < 0 := by omega
            cases ce with
            | none =>
              have hve : ve < 0 := by rw [HVE.out]; decide
              go_wp2
              go_ret
              have hRn : R = none := by rw [HR.out]; exact HNO.out (by rw [← HFB.out, ← HCA.out, ← HCE.out]; rfl)
              exact ⟨by rw [hRn]; rfl, hB4⟩
            | some e0 =>
              have hve : ve = (e0 : Int) := HVE.out
              subst hve
              have hve0 : ¬ (e0 : Int) < 0 := by omega
              have hnew : rowS (oneR d) (l.take (k + 1)) = some (n + (1 + a0 + e0)) := by rw [HST.out, ← HFB.out, ← HCA.out, ← HCE.out]; rfl
              have hbd := HLE.out _ hnew
              have HNEW := Lib.hid hnew
              clear hnew
              have hw1 : IntKind.i64.wrap ((n : Int) + 1) = (n : Int) + 1 := by rw [IntKind.wrap_i64]; omega
              have hw2 : IntKind.i64.wrap ((n : Int) + 1 + (a0 : Int)) = (n : Int) + 1 + (a0 : Int) := by rw [IntKind.wrap_i64]; omega
              have hw3 : IntKind.i64.wrap ((n : Int) + 1 + (a0 : Int) + (e0 : Int)) = ((n + (1 + a0 + e0) : Nat) : Int) := by rw [IntKind.wrap_i64]; omega
              go_wp2
              go_roundw
              case rel => first | exact ⟨k + 1, n + (1 + a0 + e0), by omega, rfl, by go_num, HNEW, hB4⟩ | ((repeat apply Exists.intro); exact ⟨⟨k + 1, n + (1 + a0 + e0), by omega, rfl, by go_num, HNEW, hB4⟩, rfl⟩)
              case measure => simp [intOf]; omega
      · obtain rfl : k = N := by omega
        have h := hrow.out
        rw [List.take_of_length_le (by rw [HN.out]; exact Nat.le_refl _)] at h
        have hRn : R = some n := by rw [HR.out]; exact h
        subst hRn
        clear h hrow
        go_wp2
        go_ret
        exact ⟨rfl, hB⟩
end Go.Proofs.YtfpoflddnlbpjaaGreatDoor
