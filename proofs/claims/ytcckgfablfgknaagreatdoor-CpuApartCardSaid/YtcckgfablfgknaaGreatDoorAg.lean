/- Two machines that are the same, but for what is tainted in both: what a step leaves of that, in plain numbers. -/
import Derived.Test.YtcckgfablfgknaaGreatDoorRow
namespace Go.Proofs.YtcckgfablfgknaaGreatDoor.m4
open Go.ChangeShapes Go.WideShapes Go.ChangeAt Go.RowKit
set_option linter.unusedVariables false
/-- The same, but for what is tainted in both; c: as long as this holds, registers, too. -/
structure Ag (n : Nat) (c : Prop) (s t : Ms) : Prop where
  rt : ∀ i, s.rt i = t.rt i
  rv : c → ∀ i, s.rt i = false → s.rv i = t.rv i
  pc : s.pc = t.pc
  ov : s.ov = t.ov
  cd : s.cd = t.cd
  tr : s.tr = t.tr
  tl : s.told.length = t.told.length
  td : ∀ i, (tlg s.told i).2 = (tlg t.told i).2 ∧ ((tlg s.told i).2 = false → (tlg s.told i).1 = (tlg t.told i).1)
  tv : ∀ k, s.tv k = t.tv k
  bv : ∀ k, s.tv k = false → s.bv k = t.bv k
  co : ∀ k, k < 4 * n + 4 → s.bv k = t.bv k
/-- The same numbers were told. -/
def AllV (s t : Ms) : Prop := ∀ i, (tlg s.told i).1 = (tlg t.told i).1
theorem Ag.weak {n : Nat} {c d : Prop} {s t : Ms} (h : Ag n c s t) (hd : d → c) : Ag n d s t := { h with rv := fun k => h.rv (hd k) }
theorem up1_same {α : Type} {f g : Nat → α} {i : Nat} {v w : α} {k : Nat} (h : f k = g k) (hv : v = w) : up1 f i v k = up1 g i w k := by
  unfold up1; split
  · exact hv
  · exact h
theorem Ag.lay {n : Nat} {s t : Ms} (h : Ag n True s t) {i v v' : Nat} {b b' : Bool} (hb : b = b') (hv : b = false → v = v') : Ag n True (s.lay i v b) (t.lay i v' b') := by
  subst hb
  refine { h with rt := fun k => ?_, rv := fun _ k hk => ?_ }
  · show lyT s.rt i b k = lyT t.rt i b k
    unfold lyT; split
    · exact h.rt k
    · exact up1_same (h.rt k) rfl
  · have hk' : lyT s.rt i b k = false := hk
    show lyV s.rv i v k = lyV t.rv i v' k
    unfold lyT at hk'
    unfold lyV
    by_cases h0 : i = 0
    · rw [if_pos h0] at hk'
      rw [if_pos h0, if_pos h0]; exact h.rv trivial k hk'
    · rw [if_neg h0] at hk'
      rw [if_neg h0, if_neg h0]
      by_cases hki : k = i
      · subst hki
        rw [up1_at] at hk'
        rw [up1_at, up1_at]; exact hv hk'
      · rw [up1_ne _ _ _ hki] at hk'
        rw [up1_ne _ _ _ hki, up1_ne _ _ _ hki]; exact h.rv trivial k hk'
theorem Ag.go {n : Nat} {c : Prop} {s t : Ms} (h : Ag n c s t) {p q : Nat} (hp : p = q) : Ag n c (s.go p) (t.go q) := { h with pc := hp }
theorem Ag.seen {n : Nat} {c : Prop} {s t : Ms} (h : Ag n c s t) {x y : Sn} (hx : x = y) : Ag n c (s.seen x) (t.seen y) := { h with tr := by show s.tr ++ [x] = t.tr ++ [y]; rw [h.tr, hx] }
theorem upd_at' {α : Type} {g : Nat → α} {q m k : Nat} {f : Nat → α} (h : q ≤ k ∧ k < q + m) : upd g q m f k = f (k - q) := if_pos h
theorem upd_ne' {α : Type} {g : Nat → α} {q m k : Nat} {f : Nat → α} (h : ¬ (q ≤ k ∧ k < q + m)) : upd g q m f k = g k := if_neg h
theorem Ag.put {n : Nat} {s t : Ms} (h : Ag n True s t) {o : Option Nat} (ho : ∀ q, o = some q → 4 * n + 4 ≤ q) {m v v' : Nat} {b b' : Bool} (hb : b = b') (hv : b = false → v = v') : Ag n True (s.put o m v b) (t.put o m v' b') := by
  subst hb
  cases o with
  | none => exact { h with }
  | some q =>
    have hq := ho q rfl
    refine { h with tv := fun k => ?_, bv := fun k hk => ?_, co := fun k hk => ?_ }
    · show upd s.tv q m (fun _ => b) k = upd t.tv q m (fun _ => b) k
      by_cases e : q ≤ k ∧ k < q + m
      · rw [upd_at' e, upd_at' e]
      · rw [upd_ne' e, upd_ne' e]; exact h.tv k
    · have hk' : upd s.tv q m (fun _ => b) k = false := hk
      show upd s.bv q m (wb v) k = upd t.bv q m (wb v') k
      by_cases e : q ≤ k ∧ k < q + m
      · rw [upd_at' e] at hk'
        rw [upd_at' e, upd_at' e, hv hk']
      · rw [upd_ne' e] at hk'
        rw [upd_ne' e, upd_ne' e]; exact h.bv k hk'
    · show upd s.bv q m (wb v) k = upd t.bv q m (wb v') k
      rw [upd_ne' (by omega), upd_ne' (by omega)]; exact h.co k hk
theorem ldv_same {f g : Nat → Nat} : ∀ (m q : Nat), (∀ k, q ≤ k → k < q + m → f k = g k) → ldv f q m = ldv g q m
  | 0, q, _ => rfl
  | m + 1, q, h => by
    show f q + 256 * ldv f (q + 1) m = g q + 256 * ldv g (q + 1) m
    rw [h q (by omega) (by omega), ldv_same m (q + 1) (fun k a b => h k (by omega) (by omega))]
theorem ldt_same {f g : Nat → Bool} {q m : Nat} (h : ∀ k, f k = g k) : ldt f q m = ldt g q m := by
  unfold ldt; congr 1; funext k; exact h _
theorem ldt_no {f : Nat → Bool} {q m : Nat} (h : ldt f q m = false) (k : Nat) (h1 : q ≤ k) (h2 : k < q + m) : f k = false := by
  cases hf : f k with
  | false => rfl
  | true =>
    have : ldt f q m = true := ldt_iff.2 ⟨k - q, by omega, by rw [show q + (k - q) = k by omega]; exact hf⟩
    rw [h] at this; cases this
/-- What is fetched hangs on the code alone. -/
theorem fe_same {n : Nat} {f g : Nat → Nat} (h : ∀ k, k < 4 * n + 4 → f k = g k) (p : Nat) : feF (rgs n) f p = feF (rgs n) g p := by
  unfold feF
  split
  · rfl
  cases hh : hitI (rgs n) p 4 with
  | none => rfl
  | some i =>
    simp only
    split
    · rename_i hk
      have hi : i < 3 := (hit_some hh).1
      have hi0 : i = 0 := by
        have hc : i = 0 ∨ i = 1 ∨ i = 2 := by omega
        rcases hc with rfl | rfl | rfl
        · rfl
        · exact absurd hk (by show ¬ (2 : Nat) = 1; omega)
        · exact absurd hk (by show ¬ (3 : Nat) = 1; omega)
      subst hi0
      have h2 := (pos_in hh).2
      have h3 : beg (rgs n) 0 + (rg (rgs n) 0).s = 4 * n + 4 := by show 0 + (4 * n + 4) = _; omega
      rw [ldv_same 4 _ (fun k a b => h k (by omega))]
    · rfl
/-- What is stored lies behind the code. -/
theorem st_far {n p q : Nat} {m : Int} (h : stO (rgs n) p m = some q) : 4 * n + 4 ≤ q := by
  unfold stO at h
  split at h
  · cases h
  split at h
  · cases h
  · rename_i i hh
    split at h
    · rename_i hk
      injection h with h
      subst h
      have hi : i < 3 := (hit_some hh).1
      have hi0 : 1 ≤ i := by
        rcases Nat.eq_zero_or_pos i with rfl | h0
        · exact absurd hk (by show ¬ ((1 : Nat) = 3 ∨ (1 : Nat) = 4); omega)
        · exact h0
      have h1 := (pos_in hh).1
      have h4 := beg_le (rgs n) i 1 hi0 (by rw [rgs_len]; omega)
      rw [beg1] at h4
      omega
    · cases h
theorem Ag.load {n : Nat} {c : Prop} {s t : Ms} (h : Ag n c s t) (p : Nat) (m : Int) : (ldF (rgs n) s.bv s.tv p m).2 = (ldF (rgs n) t.bv t.tv p m).2 ∧ ((ldF (rgs n) s.bv s.tv p m).2.1 = false → (ldF (rgs n) s.bv s.tv p m).1 = (ldF (rgs n) t.bv t.tv p m).1) := by
  unfold ldF
  split
  · exact ⟨rfl, fun _ => rfl⟩
  split
  · exact ⟨rfl, fun _ => rfl⟩
  · split
    · exact ⟨rfl, fun _ => rfl⟩
    · refine ⟨by simp only; rw [ldt_same h.tv], fun hf => ?_⟩
      exact ldv_same _ _ fun k a b => h.bv k (ldt_no hf k a b)
theorem tlg_snoc (l : List (Nat × Bool)) (p : Nat × Bool) (i : Nat) : tlg (l ++ [p]) i = if i < l.length then tlg l i else if i = l.length then p else (0, false) := by
  unfold tlg
  rw [List.getD_eq_getElem?_getD, List.getD_eq_getElem?_getD]
  by_cases h : i < l.length
  · rw [if_pos h, List.getElem?_append_left h]
  · rw [if_neg h, List.getElem?_append_right (by omega)]
    by_cases e : i = l.length
    · rw [if_pos e, e, Nat.sub_self]; rfl
    · rw [if_neg e]
      have : 1 ≤ i - l.length := by omega
      obtain ⟨k, hk⟩ : ∃ k, i - l.length = k + 1 := ⟨i - l.length - 1, by omega⟩
      rw [hk]; rfl
theorem Ag.tell {n : Nat} {s t : Ms} (h : Ag n True s t) : Ag n (AllV s.tell t.tell) s.tell t.tell := by
  refine { h with rt := fun k => up1_same (h.rt k) rfl, rv := fun hv k hk => ?_, tl := ?_, td := fun i => ?_ }
  · have hk' : up1 s.rt 10 false k = false := hk
    show s.rv k = t.rv k
    by_cases e : k = 10
    · subst e
      have h1 := hv s.told.length
      have e1 : tlg s.tell.told s.told.length = (s.rv 10, s.rt 10) := by show tlg (s.told ++ [_]) _ = _; rw [tlg_snoc, if_neg (by omega), if_pos rfl]
      have e2 : tlg t.tell.told s.told.length = (t.rv 10, t.rt 10) := by show tlg (t.told ++ [_]) _ = _; rw [tlg_snoc, h.tl, if_neg (by omega), if_pos rfl]
      rw [e1, e2] at h1
      exact h1
    · rw [up1_ne _ _ _ e] at hk'
      exact h.rv trivial k hk'
  · show (s.told ++ [_]).length = (t.told ++ [_]).length
    rw [List.length_append, List.length_append, h.tl]; rfl
  · show (tlg (s.told ++ [_]) i).2 = (tlg (t.told ++ [_]) i).2 ∧ ((tlg (s.told ++ [_]) i).2 = false → (tlg (s.told ++ [_]) i).1 = (tlg (t.told ++ [_]) i).1)
    rw [tlg_snoc, tlg_snoc, h.tl]
    by_cases h1 : i < t.told.length
    · rw [if_pos h1, if_pos h1]; exact h.td i
    · rw [if_neg h1, if_neg h1]
      by_cases h2 : i = t.told.length
      · rw [if_pos h2, if_pos h2]; exact ⟨h.rt 10, fun hf => h.rv trivial 10 hf⟩
      · rw [if_neg h2, if_neg h2]; exact ⟨rfl, fun _ => rfl⟩
/-- What two instructions leave that are the same. -/
def Ex2 (n : Nat) (r q : Ex) : Prop := q.e = 0 ∧ q.n = r.n ∧ Ag n (r.n.k = 5 → AllV r.s q.s) r.s q.s
theorem Ex2.mk' {n : Nat} {r q : Ex} (he : q.e = 0) (hn : q.n = r.n) (h : Ag n True r.s q.s) : Ex2 n r q := ⟨he, hn, h.weak fun _ => trivial⟩
theorem or_no {a b : Bool} (h : (a || b) = false) : a = false ∧ b = false := by cases a <;> cases b <;> simp_all
theorem ex_ag {n : Nat} {s t : Ms} (h : Ag n True s t) (x : In) (he : (exF (rgs n) s x).e = 0) (hn : (exF (rgs n) s x).n.t = false) : Ex2 n (exF (rgs n) s x) (exF (rgs n) t x) := by
  have hnx : s.nx = t.nx := by unfold Ms.nx; rw [h.pc]
  have hsn : t.sn = s.sn := by unfold Ms.sn; rw [h.pc]
  have hat : s.rt x.rs1 = false → s.at x = t.at x := fun hf => by unfold Ms.at; rw [h.rv trivial _ hf]
  have hor : (s.rt x.rs1 || s.rt x.rs2) = (t.rt x.rs1 || t.rt x.rs2) := by rw [h.rt, h.rt]
  have hop : (s.rt x.rs1 || s.rt x.rs2) = false → opv x.op (s.rv x.rs1) (s.rv x.rs2) = opv x.op (t.rv x.rs1) (t.rv x.rs2) := fun hf => by rw [h.rv trivial _ (or_no hf).1, h.rv trivial _ (or_no hf).2]
  unfold exF at he hn ⊢
  by_cases h1 : x.op ≤ 12
  · rw [if_pos h1, if_pos h1]
    exact Ex2.mk' rfl hsn ((h.lay hor hop).go hnx)
  rw [if_neg h1] at he hn ⊢
  rw [if_neg h1]
  by_cases h2 : x.op ≤ 14
  · rw [if_pos h2] at hn
    have hf : (s.rt x.rs1 || s.rt x.rs2) = false := hn
    rw [if_pos h2, if_pos h2]
    refine Ex2.mk' rfl ?_ ((h.lay hor hop).go hnx)
    show (⟨t.pc, 4, t.rv x.rs1, t.rv x.rs2, t.rt x.rs1 || t.rt x.rs2⟩ : Sn) = ⟨s.pc, 4, s.rv x.rs1, s.rv x.rs2, s.rt x.rs1 || s.rt x.rs2⟩
    rw [h.pc, h.rv trivial _ (or_no hf).1, h.rv trivial _ (or_no hf).2, hor]
  rw [if_neg h2] at he hn ⊢
  rw [if_neg h2]
  by_cases h3 : x.op ≤ 22
  · rw [if_pos h3, if_pos h3]
    exact Ex2.mk' rfl hsn ((h.lay (h.rt _) (fun hf => by rw [h.rv trivial _ hf])).go hnx)
  rw [if_neg h3] at he hn ⊢
  rw [if_neg h3]
  by_cases h4 : x.op = 23
  · rw [if_pos h4, if_pos h4]
    exact Ex2.mk' rfl hsn ((h.lay rfl (fun _ => rfl)).go hnx)
  rw [if_neg h4] at he hn ⊢
  rw [if_neg h4]
  have load : ∀ m, (exLoad (rgs n) s x m).e = 0 → (exLoad (rgs n) s x m).n.t = false → Ex2 n (exLoad (rgs n) s x m) (exLoad (rgs n) t x m) := fun m he hn => by
    have hf : s.rt x.rs1 = false := hn
    have e1 := hat hf
    obtain ⟨l1, l2⟩ := h.load (t.at x) m
    rw [← e1] at l1 l2
    refine Ex2.mk' ?_ ?_ ((h.lay ?_ ?_).go hnx)
    · show (ldF (rgs n) t.bv t.tv (t.at x) m).2.2 = 0
      rw [← e1, ← l1]; exact he
    · show (⟨t.pc, 2, t.at x, 0, t.rt x.rs1⟩ : Sn) = ⟨s.pc, 2, s.at x, 0, s.rt x.rs1⟩
      rw [h.pc, e1, h.rt]
    · rw [← e1, ← l1, h.rt]
    · intro hh
      rw [← e1]; exact l2 (or_no hh).1
  have store : ∀ m, (exStore (rgs n) s x m).e = 0 → (exStore (rgs n) s x m).n.t = false → Ex2 n (exStore (rgs n) s x m) (exStore (rgs n) t x m) := fun m he hn => by
    have hf : s.rt x.rs1 = false := hn
    have e1 := hat hf
    have hp : Ag n True (s.put (stO (rgs n) (s.at x) m) m.toNat (s.rv x.rs2) (s.rt x.rs1 || s.rt x.rs2)) (t.put (stO (rgs n) (t.at x) m) m.toNat (t.rv x.rs2) (t.rt x.rs1 || t.rt x.rs2)) := by
      rw [← e1]
      exact h.put (fun q hq => st_far hq) hor (fun hh => h.rv trivial _ (or_no hh).2)
    refine Ex2.mk' ?_ ?_ (hp.go hnx)
    · show stE (rgs n) (t.at x) m = 0
      rw [← e1]; exact he
    · show (⟨t.pc, 3, t.at x, 0, t.rt x.rs1⟩ : Sn) = ⟨s.pc, 3, s.at x, 0, s.rt x.rs1⟩
      rw [h.pc, e1, h.rt]
  by_cases h5 : x.op = 24
  · rw [if_pos h5] at he hn ⊢
    rw [if_pos h5]; exact load 1 he hn
  rw [if_neg h5] at he hn ⊢
  rw [if_neg h5]
  by_cases h6 : x.op = 25
  · rw [if_pos h6] at he hn ⊢
    rw [if_pos h6]; exact load 8 he hn
  rw [if_neg h6] at he hn ⊢
  rw [if_neg h6]
  by_cases h7 : x.op = 26
  · rw [if_pos h7] at he hn ⊢
    rw [if_pos h7]; exact store 1 he hn
  rw [if_neg h7] at he hn ⊢
  rw [if_neg h7]
  by_cases h8 : x.op = 27
  · rw [if_pos h8] at he hn ⊢
    rw [if_pos h8]; exact store 8 he hn
  rw [if_neg h8] at he hn ⊢
  rw [if_neg h8]
  by_cases h9 : x.op ≤ 31
  · rw [if_pos h9] at he hn ⊢
    rw [if_pos h9]
    have hf : (s.rt x.rs1 || s.rt x.rs2) = false := hn
    refine Ex2.mk' rfl ?_ (h.go ?_)
    · show (⟨t.pc, 1, 0, 0, t.rt x.rs1 || t.rt x.rs2⟩ : Sn) = ⟨s.pc, 1, 0, 0, s.rt x.rs1 || s.rt x.rs2⟩
      rw [h.pc, hor]
    · rw [h.rv trivial _ (or_no hf).1, h.rv trivial _ (or_no hf).2, h.pc, hnx]
  rw [if_neg h9] at he hn ⊢
  rw [if_neg h9]
  by_cases h10 : x.op = 32
  · rw [if_pos h10, if_pos h10]
    exact Ex2.mk' rfl hsn ((h.lay rfl (fun _ => hnx)).go (by rw [h.pc]))
  rw [if_neg h10] at he hn ⊢
  rw [if_neg h10]
  by_cases h11 : x.op = 33
  · rw [if_pos h11] at he hn ⊢
    rw [if_pos h11]
    have hf : s.rt x.rs1 = false := hn
    refine Ex2.mk' rfl ?_ ((h.lay rfl (fun _ => hnx)).go (by rw [hat hf]))
    show (⟨t.pc, 1, 0, 0, t.rt x.rs1⟩ : Sn) = ⟨s.pc, 1, 0, 0, s.rt x.rs1⟩
    rw [h.pc, h.rt]
  rw [if_neg h11] at he hn ⊢
  rw [if_neg h11]
  have hf : s.rt 17 = false := hn
  have e17 := h.rv trivial 17 hf
  have hnn : (exCall t).n = (exCall s).n := by
    show (⟨t.pc, 5, t.rv 17, 0, t.rt 17⟩ : Sn) = ⟨s.pc, 5, s.rv 17, 0, s.rt 17⟩
    rw [h.pc, e17, h.rt]
  have hee : (exCall t).e = 0 := by
    show (if 5 < t.rv 17 then (51 : Int) else 0) = 0
    rw [← e17]; exact he
  refine ⟨hee, hnn, ?_⟩
  have hs : (exCall s).s = if s.rv 17 < 4 then s.halt else if s.rv 17 = 4 then s.tell.go s.nx else s.go s.nx := rfl
  have ht : (exCall t).s = if s.rv 17 < 4 then t.halt else if s.rv 17 = 4 then t.tell.go t.nx else t.go t.nx := by rw [e17]; rfl
  have hk : (exCall s).n.k = 5 := rfl
  by_cases c1 : s.rv 17 < 4
  · rw [hs, ht, if_pos c1, if_pos c1]
    exact ({ h with ov := rfl, cd := e17 } : Ag n True s.halt t.halt).weak fun _ => trivial
  rw [if_neg c1] at hs ht
  by_cases c2 : s.rv 17 = 4
  · rw [if_pos c2] at hs ht
    rw [hs, ht]
    exact (h.tell.go hnx).weak fun hh => hh hk
  · rw [if_neg c2] at hs ht
    rw [hs, ht]
    exact (h.go hnx).weak fun _ => trivial
/-- A step. -/
theorem st_ag {n : Nat} {s t s' : Ms} (h : Ag n True s t) (hs : stF (rgs n) s = (0, s')) : ∃ x : Sn, s'.tr = s.tr ++ [x] ∧ (x.t = false → ∃ t', stF (rgs n) t = (0, t') ∧ t'.tr = s.tr ++ [x] ∧ Ag n (x.k = 5 → AllV s' t') s' t') := by
  unfold stF at hs ⊢
  by_cases h1 : s.ov = true
  · rw [if_pos h1] at hs; exact absurd (Prod.mk.inj hs).1 (by decide)
  rw [if_neg h1] at hs
  by_cases h2 : s.tr.length = 1048576
  · rw [if_pos h2] at hs; exact absurd (Prod.mk.inj hs).1 (by decide)
  rw [if_neg h2] at hs
  rw [← h.ov, if_neg h1, ← h.tr, if_neg h2]
  unfold doF at hs ⊢
  rw [← h.pc, ← fe_same h.co]
  by_cases h3 : (feF (rgs n) s.bv s.pc).2 = 0
  · rw [if_pos h3] at hs ⊢
    cases hd : decN (feF (rgs n) s.bv s.pc).1 with
    | none => rw [hd] at hs; exact absurd (Prod.mk.inj hs).1 (by decide)
    | some x =>
      rw [hd] at hs
      simp only at hs ⊢
      unfold exE at hs ⊢
      by_cases h4 : (exF (rgs n) s x).e = 0
      · rw [if_pos h4] at hs
        have e := (Prod.mk.inj hs).2
        obtain ⟨_, htr⟩ := exF_told (rgs n) s x
        refine ⟨(exF (rgs n) s x).n, by rw [← e]; show (exF (rgs n) s x).s.tr ++ [_] = _; rw [htr], fun hn => ?_⟩
        obtain ⟨q1, q2, q3⟩ := ex_ag h x h4 hn
        refine ⟨(exF (rgs n) t x).s.seen (exF (rgs n) t x).n, by rw [if_pos q1], ?_, ?_⟩
        · show (exF (rgs n) t x).s.tr ++ [(exF (rgs n) t x).n] = _
          rw [(exF_told (rgs n) t x).2, q2, h.tr]
        · rw [← e]; exact q3.seen q2.symm
      · rw [if_neg h4] at hs; exact absurd (Prod.mk.inj hs).1 h4
  · rw [if_neg h3] at hs; exact absurd (Prod.mk.inj hs).1 h3
end Go.Proofs.YtcckgfablfgknaaGreatDoor.m4
