/- Contract of the document's Bytes. -/
import Derived.Test.YtkcgnpcfdfkpjaaRt
import Derived.Deep.RegionLaw
namespace Go.Proofs.Ytkcgnpcfdfkpjaa
open Go.ChangeShapes Go.WideShapes Go.ChangeAt Go.RowKit
set_option linter.unusedVariables false
theorem step_append_own {P : Program} {w : World} {ops : Array Oper} {o : Oper} {a : Act} {K : Act → World → Prop} {Q : Exit → Act → World → Prop} {E : Prop} (hgd : o.guard = none) (s x : Operand) (t : TypeId)
    (ho : o.op = .call { callee := .builtin .append, args := #[s, x], argTypes := #[t, t] })
    (base : Nat) (e : TypeId) (i : TypeInfo) (z : Value) (size bytes : Nat) (ht : P.underlying t = some (.slice e)) (hi : P.info? e = some i) (hz : i.zero = some z)
    (hsize : i.size = size) (hby : i.bytes = bytes) (hzs : z.cells.size = size) (hsz : 0 < size)
    (v : Value) (n : Nat) (xs : List Value) (hs : a.eval s = v) (hown : w.ownsRow base e size v n xs)
    (ad : Addr) (m c : Nat) (news : List Value) (hx : a.eval x = .slice (some ad) m c) (hl : news.length = m * size) (hnews : ∀ j u, news[j]? = some u → w.cell? (ad.add j) = some u) (h1 : ∀ u ∈ news, u.oneCell' = true)
    (h63 : n + m ≤ maxLen) (hbytes : (n + m) * bytes ≤ 140737488355328) (hbase : base ≤ w.heap.size)
    (h : ∀ v' w', w'.ownsRow base e size v' (n + m) (xs ++ news) → w.grownBy w' v.ownBlock → (v' = .slice none 0 0 ↔ v = .slice none 0 0 ∧ m = 0) → K (a.put o.dst v') w') :
    if Region.wanted o (yielded ops a.tmps) = true then Oper.wp P o a w K Q else E := by
  have hw : Region.wanted o (yielded ops a.tmps) = true := by simp [Region.wanted, hgd]
  rw [if_pos hw]
  exact wp_append_own w s x t ho base e i z size bytes ht hi hz hsize hby hzs hsz v n xs hs hown ad m c news hx hl hnews h1 h63 hbytes hbase h
theorem rconv_at {y : Mr} {bv : Nat → Nat} {tv : Nat → Bool} {w : World} (h : IsR w y bv tv) {i : Nat} (hi : i < y.l.length) (d n c : Nat) (hq : d + n ≤ (rg y.l i).s) :
    (convert 57 9 (.slice (some ⟨y.bs i, d, none⟩) n c)).run Try.prog w = .ok (.string (strOfNums (numsAt bv (beg y.l i + d) n))) w := by
  refine run_convert_bytes_arg (P := Try.prog) _ 57 5 Try.underlying57 Try.underlying5 (y.bs i) d n c (numsAt bv (beg y.l i + d) n) (numsAt_length _ _ _) ?_ 9 Try.underlying9
  intro k hk
  rw [numsAt_getD bv _ n k hk, show beg y.l i + d + k = beg y.l i + (d + k) by omega]
  exact h.vals i hi _ (by omega)
theorem nums_pos (l : List Rg) (i p n : Nat) (bv : Nat → Nat) : numsAt bv (pos l i p n) n = numsAt bv (beg l i + (p - (rg l i).f)) n := by
  by_cases h : n = 0
  · subst h; rfl
  · have hp : pos l i p n = beg l i + (p - (rg l i).f) := by unfold pos off0; rw [if_neg h]
    rw [hp]
theorem tl_pos (l : List Rg) (i p n : Nat) (tv : Nat → Bool) : tl tv (pos l i p n) n = tl tv (beg l i + (p - (rg l i).f)) n := by
  by_cases h : n = 0
  · subst h; rfl
  · have hp : pos l i p n = beg l i + (p - (rg l i).f) := by unfold pos off0; rw [if_neg h]
    rw [hp]
set_option maxHeartbeats 4000000 in
theorem rbytes_any {y : Mr} {bv : Nat → Nat} {tv : Nat → Bool} (p : Nat) (n : Int) (hp : p < 18446744073709551616) (w : World) (h : IsR w y bv tv) :
    Calls Try.prog 28 #[.pointer (some ⟨y.rb, 0, none⟩), .int .u64 p, .int .i64 n] w (BsP w (byS y.l bv p n) (byT y.l tv p n) (byE y.l p n)) := by
  by_cases hn : n < 0 ∨ 1048576 < n
  · have e1 : byO y.l p n = none := by unfold byO; rw [if_pos hn]
    have e2 : byE y.l p n = 2 := by unfold byE; rw [if_pos hn]
    unfold byS byT
    rw [e1, e2]
    clear e1 e2
    by_cases h1 : n < 0
    · clear hn
      go_enter Try.func28, Try.ntmps28
      go_wp2
      go_ret3
      exact BsP.err (Below.refl _ _)
    · have h2 : 1048576 < n := by omega
      clear hn
      go_enter Try.func28, Try.ntmps28
      go_wp2
      go_ret3
      exact BsP.err (Below.refl _ _)
  · obtain ⟨m, rfl⟩ : ∃ m : Nat, n = m := ⟨n.toNat, by omega⟩
    have hm : m ≤ 1048576 := by omega
    have hIn := in_any h.may h.wf p m hp (by omega) w h.rr
    have e1 : byO y.l p m = seO y.l p m := by unfold byO; rw [if_neg hn, Int.toNat_natCast]
    have e2 : byE y.l p m = if (seO y.l p m).isSome then 0 else 40 := by unfold byE; rw [if_neg hn, e1]
    unfold byS byT
    rw [e1, e2]
    clear e1 e2 hn
    cases hi : hitI y.l p m with
    | none =>
      rw [seO_miss hi, show (if (none : Option Nat).isSome = true then (0 : Int) else 40) = 40 from rfl]
      rw [inV_none hi] at hIn
      go_enter Try.func28, Try.ntmps28
      go_wp2_with (go_at_call 43; (with_reducible refine hIn.mono ?_); (rintro e w1 ⟨rfl, hb1⟩))
      go_ret3
      exact BsP.err hb1
    | some i =>
      rw [seO_hit hi, show (if (some (pos y.l i p m)).isSome = true then (0 : Int) else 40) = 0 from rfl]
      simp only [Int.toNat_natCast]
      rw [nums_pos, tl_pos]
      rw [inV_some hi] at hIn
      obtain ⟨hil, hf1, hf2, hf3⟩ := hit_some hi
      have hl16 := h.may.2.2
      obtain ⟨⟨⟨g1, g2, g3, g4⟩, g5⟩, _⟩ := h.may.1 i hil
      have i0 : (0 : Int) ≤ (i : Int) := by omega
      have i1 : (i : Int) < (y.l.length : Int) := by omega
      obtain ⟨d, hd⟩ : ∃ d, p - (rg y.l i).f = d := ⟨_, rfl⟩
      have hds : d + m ≤ (rg y.l i).s := by omega
      have hds' : d < (rg y.l i).s := by omega
      rw [hd] at hIn ⊢
      clear hi hf1 hf2 hf3 hd
      obtain ⟨i0', hinf, hz0, hz1, hz2⟩ := info_parts infoB
      obtain ⟨ss, hss⟩ : ∃ ss, strOfNums (numsAt bv (beg y.l i + d) m) = ss := ⟨_, rfl⟩
      rw [hss]
      go_enter Try.func28, Try.ntmps28
      go_wp2_with (go_at_call 43; (with_reducible refine hIn.mono ?_); (rintro e w1 ⟨rfl, hb1⟩))
      have hI := (h.of hb1).of (bd1 (Below.refl _ _))
      have hBW := bd1 hb1
      have hcv := rconv_at hI hil d m ((rg y.l i).s - d) hds
      rw [hss] at hcv
      have s0 := hI.rr.h0
      have s1 := hI.rr.h1
      have s2 := hI.rr.h2
      have bb := hI.rr.hb i hil
      have bt := hI.rr.ht i hil
      have hz := hI.lt i hil
      have hnw : ∀ j u, (tl tv (beg y.l i + d) m)[j]? = some u → w1.drew.cell? ((⟨y.ts i, d, none⟩ : Addr).add j) = some u := fun j u hj => by
        have hjn : j < m := by
          have := (List.getElem?_eq_some_iff.1 hj).1
          rw [tl_length] at this; exact this
        rw [tl_at tv _ m j hjn] at hj
        rw [addp]
        injection hj with hj
        subst hj
        rw [show beg y.l i + d + j = beg y.l i + (d + j) by omega]
        exact hI.tnts i hil _ (by omega)
      have h1c : ∀ u ∈ tl tv (beg y.l i + d) m, u.oneCell' = true := fun u hu => by obtain ⟨x, _, rfl⟩ := List.mem_map.1 hu; rfl
      have hwr : IntKind.i64.wrap ((d : Int) + (m : Int)) = (d : Int) + (m : Int) := by rw [IntKind.wrap_i64]; omega
      have hle : (d : Int) + (m : Int) ≤ ((rg y.l i).s : Int) := by omega
      have hle0 : (0 : Int) ≤ (d : Int) + (m : Int) := by omega
      have hle1 : d ≤ d + m := by omega
      have hsd : ¬ (rg y.l i).s = d := by omega
      have hdm : d + m - d = m := by omega
      have htn : ((d : Int) + (m : Int)).toNat = d + m := by omega
      go_region_law (refine step_append_own rfl (.const (.slice none 0 0)) (.tmp 50) 49 rfl w1.drew.heap.size 4 i0' (.bool false) 1 1 Try.underlying49 hinf hz0 hz1 hz2 rfl (by decide) (.slice none 0 0) 0 [] rfl (World.ownsRow_nil _ _ _ _) ⟨y.ts i, d, none⟩ m ((rg y.l i).s - d) (tl tv (beg y.l i + d) m) rfl (by rw [tl_length]; omega) hnw h1c (by unfold maxLen; omega) (by omega) (Nat.le_refl _) ?_; intro v' w5 hown hgrow hnil; have hb5 := (Below.refl w1.drew.heap.size w1.drew).grown hgrow (Nat.le_refl _) (by intro k hk; simp [Value.ownBlock] at hk); have hcv5 := rconv_at (hI.of hb5) hil d m ((rg y.l i).s - d) hds; rw [hss] at hcv5; have s0 := stay hb5 s0; have s1 := stay hb5 s1; have bb := stay hb5 bb)
      all_goals go_wp2
      all_goals go_ret3
      all_goals exact ⟨⟨_, rfl, by rw [tl_length]; exact own_down (by simpa using hown) hBW.size⟩, below_trans' hBW (Nat.le_refl _) hb5⟩
end Go.Proofs.Ytkcgnpcfdfkpjaa
