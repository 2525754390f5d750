/- ShowLines' walk. -/
import Derived.Test.YtkibkaoffgnmkaaGreatDoorL43
import Derived.Test.YtkibkaoffgnmkaaGreatDoorL45
import Derived.Test.YtkibkaoffgnmkaaGreatDoorL47
namespace Go.Proofs.YtkibkaoffgnmkaaGreatDoor
set_option linter.unusedVariables false
set_option linter.unusedSimpArgs false
set_option maxRecDepth 100000
set_option maxHeartbeats 200000000
open Go.ChangeShapes Go.WideShapes Go.ChangeAt Go.RowKit
theorem scan_cls {o : Nat} {wi bl : Bool} {c : UInt8} {R : List UInt8} {X : Nat × Bool × Bool} (h : scan o wi bl (c :: R) = some X) :
  (c.toNat = 123 ∧ scan (o + 1) true false R = some X) ∨ (c.toNat = 125 ∧ 0 < o ∧ scan (o - 1) true false R = some X) ∨ (c.toNat = 32 ∧ (wi && bl) = false ∧ scan o wi true R = some X) ∨ (c.toNat = 10 ∧ scan o false false R = some X) ∨
   (c.toNat ≠ 123 ∧ c.toNat ≠ 125 ∧ c.toNat ≠ 32 ∧ c.toNat ≠ 10 ∧ scan o true false R = some X) := by
 have ne : ∀ {n : Nat} (d : UInt8), d.toNat = n → c ≠ d → c.toNat ≠ n := fun d hd hc e => hc (UInt8.toNat_inj.1 (e.trans hd.symm))
 rw [scan] at h
 by_cases h1 : c = 123
 ·subst h1; left; exact ⟨rfl, by simpa using h⟩
 right
 by_cases h2 : c = 125
 ·subst h2; left
  by_cases h0 : o = 0
  ·rw [if_pos ⟨rfl, h0⟩] at h; cases h
  ·exact ⟨rfl, by omega, by simpa [h0] using h⟩
 right
 by_cases h3 : c = 32
 ·subst h3; left
  refine ⟨rfl, ?_⟩
  cases hb : (wi && bl)
  ·rw [hb] at h
   exact ⟨rfl, by simpa using h⟩
  ·rw [hb] at h; simp at h
 right
 by_cases h4 : c = 10
 ·subst h4; left; exact ⟨rfl, by simpa using h⟩
 ·right; exact ⟨ne 123 rfl h1, ne 125 rfl h2, ne 32 rfl h3, ne 10 rfl h4, by simpa [h1, h2, h3, h4] using h⟩
structure LnOk (S : ByteArray) (N : Nat) : Prop where
 scan : scan 0 false false S.data.toList = some (0, false, false)
 nil : S.size = 0 ↔ N = 0
 last : ∀ h : 0 < S.size, (S[S.size - 1]'(by omega)).toNat = 10
 short : S.size ≤ 11700000000
theorem ln_ok (l : List Fd) (h : pgB l = true) (hd : ∀ f ∈ l, f.nd) (hb : ∀ f ∈ l, f.nb) : LnOk (str (shoT l)) l.length := by
 obtain ⟨-, hln, hct⟩ := pg_all l h hd hb
 have htot := lns_len (pgL l) hln
 have hz : (str (shoT l)).size = (shoT l).length := str_size _
 refine ⟨by rw [str_list]; exact shown_scan l h hb, ?_, fun h0 => ?_, ?_⟩
 ·rw [hz, List.length_eq_zero_iff, List.length_eq_zero_iff]; exact shown_nil l
 ·obtain ⟨s, e⟩ := shown_last l (fun e => by subst e; exact absurd h0 (by decide))
  have h1 := byte_at (str (shoT l)) ((str (shoT l)).size - 1) (by omega)
  rw [str_list] at h1
  have h2 : (shoT l)[(shoT l).length - 1]? = some 10 := by rw [e]; simp
  have h3 : (shoT l)[(str (shoT l)).size - 1]? = some 10 := by rw [hz]; exact h2
  rw [Option.some.inj (h1.symm.trans h3)]; rfl
 ·rw [hz]
  have : (shoT l).length ≤ 9000000 * (pgL l).length := htot
  omega
theorem lines_walk (l : List Fd) (hlb : ∀ f ∈ l, f.lb) (hnb : ∀ f ∈ l, f.nb) (hl : l.length ≤ 1466015503658) (ma : Option Addr) (cap : Nat) (w : World) (hT : Tb w) (hSw : SwOk w) (hF : FdsAt (fun b => b < w.heap.size) w l ma) :
  Calls Tryz.prog 6 #[.agg #[.slice ma l.length cap]] w fun r w' => r = .returned (.bool true) ∧ Below w.heap.size w w' := by
 have hFx := fun x (hx : Below w.heap.size w x) => (FdsAt.of hF hx).mono (G' := fun b => b < x.heap.size) (fun b hb => Nat.lt_of_lt_of_le hb hx.size)
 have hLg := fun x (hx : Below w.heap.size w x) => lg9_any l (fun f hf => (hlb f hf).2.1.1) hl ma cap x (hFx x hx)
 have hNo := fun (h : pgB l = false) x (hx : Below w.heap.size w x) => show_no l ma cap x (hFx x hx) (by omega) (hT.of hx) h
 have hYes := fun (h : pgB l = true) (hd : ∀ f ∈ l, f.nd) x (hx : Below w.heap.size w x) => show_yes l ma cap x (hFx x hx) (by omega) (hT.of hx) (hSw.of hx) h hd hnb
 have hOk := fun h hd => ln_ok l h hd hnb
 have hAl := fun x (hx : Below w.heap.size w x) => alive09 x (hT.of hx) (hSw.of hx)
 unfold LgQ at hLg
 generalize str (shoT l) = S at hYes hOk
 obtain ⟨N, hN⟩ : ∃ N, N = l.length := ⟨_, rfl⟩
 rw [← hN] at hl ⊢
 simp only [← hN] at hLg hNo hYes hOk
 obtain ⟨nd, hnd⟩ : ∃ nd : Prop, nd = ∀ f ∈ l, f.nd := ⟨_, rfl⟩
 simp only [← hnd] at hLg hYes hOk
 obtain ⟨c, hc⟩ : ∃ c, c = pgB l := ⟨_, rfl⟩
 simp only [← hc] at hNo hYes hOk
 clear hN hlb hnb hnd hc hF hFx
 obtain ⟨W, hW⟩ : ∃ W, w.alloc (.cells #[.slice ma N cap] 24) = W := ⟨_, rfl⟩
 have hBW : Below w.heap.size w W := by rw [← hW]; exact aB (Below.refl _ _) _
 have hr : rowG #[.slice ma N cap] W w.heap.size := by rw [← hW]; exact rowG_at _ _ _ _ rfl
 have z0 := hr.1 0 (by simp)
 have zl := hr.2.2
 go_enter Tryz.func6, Tryz.ntmps6
 go_wp2_with (go_at_call 7; ((with_reducible refine (hLg _ hBW).mono ?_); (rintro e w1 ⟨⟨bb, rfl, hbb⟩, hb1⟩); (have hB1 := tr hBW hb1); (have hr1 := rowG_b hr hb1); (clear z0 zl hW hLg); (have z0 := hr1.1 0 (by simp)); (have zl := hr1.2.2); (have HBB := Lib.hid hbb); clear hbb; cases bb))
 ·have hnd := (HBB.out (by first | rfl | trivial)).2.2
  clear HBB
  cases c
  ·have hSh := hNo rfl w1 hB1
   clear hNo hYes hOk
   go_wp2_with first
    | (go_at_call 10; ((with_reducible refine hSh.mono ?_); clear hSh; (rintro e w2 ⟨rfl, hb2⟩); (have hB2 := tr hB1 hb2); (have hA := hAl _ hB2)))
    | (go_at_call 8; ((with_reducible refine hA.mono ?_); (rintro e w3 ⟨rfl, hb3⟩)))
   go_ret
   exact ⟨rfl, tr hB2 hb3⟩
  ·have hSh := hYes rfl hnd w1 hB1
   have hK := hOk rfl hnd
   clear hNo hYes hOk
   have HK := Lib.hid hK
   have hsz := hK.short
   clear hK
   go_wp2_with (go_at_call 10; ((with_reducible refine hSh.mono ?_); clear hSh; (rintro e w2 ⟨rfl, hb2⟩); (have hB2 := tr hB1 hb2); (have hr2 := rowG_b hr1 hb2); clear z0 zl))
   go_loopw [5, 6, 7, 8] (fun ov wv bv iv wr => ∃ (k o : Nat) (wi bl : Bool), k ≤ S.size ∧ o ≤ k ∧ ov = .int .i64 (o : Int) ∧ wv = .bool wi ∧ bv = .bool bl ∧ iv = .int .i64 (k : Int) ∧ Below w2.heap.size w2 wr ∧ Hid (scan o wi bl (S.data.toList.drop k) = some (0, false, false))) (fun _ _ _ iv _ => S.size - (intOf iv).toNat)
   case atStart => exact ⟨0, 0, false, false, Nat.zero_le _, Nat.le_refl _, rfl, rfl, rfl, rfl, Below.refl _ _, Lib.hid (by rw [List.drop_zero]; exact HK.out.scan)⟩
   case round =>
    obtain ⟨k, o, wi, bl, hk, ho, rfl, rfl, rfl, rfl, hBq, HSC⟩ := hrel
    by_cases hlt : k < S.size
    ·have hsc := HSC.out
     rw [drop_cons S k hlt] at hsc
     rcases scan_cls hsc with ⟨hn, h1⟩ | ⟨hn, h0, h1⟩ | ⟨hn, h0, h1⟩ | ⟨hn, h1⟩ | ⟨n1, n2, n3, n4, h1⟩
     all_goals
      have H1 := Lib.hid h1
      clear h1 hsc HSC
     ·have hn' : ((S[k]'hlt).toNat : Int) = 123 := by omega
      clear hn
      cases wi <;> cases bl
      all_goals
       go_wp2
       go_roundw
       case rel => first | exact ⟨k + 1, o + 1, true, false, by omega, by omega, by go_num, rfl, rfl, by go_num, hBq, H1⟩ | ((repeat apply Exists.intro); exact ⟨⟨k + 1, o + 1, true, false, by omega, by omega, by go_num, rfl, rfl, by go_num, hBq, H1⟩, rfl⟩)
       case measure => simp [intOf]; omega
     ·have hn' : ((S[k]'hlt).toNat : Int) = 125 := by omega
      clear hn
      obtain ⟨o, rfl⟩ : ∃ q, o = q + 1 := ⟨o - 1, by omega⟩
      rw [Nat.add_sub_cancel] at H1
      cases wi <;> cases bl
      all_goals
       go_wp2
       go_roundw
       case rel => first | exact ⟨k + 1, o, true, false, by omega, by omega, by go_num, rfl, rfl, by go_num, hBq, H1⟩ | ((repeat apply Exists.intro); exact ⟨⟨k + 1, o, true, false, by omega, by omega, by go_num, rfl, rfl, by go_num, hBq, H1⟩, rfl⟩)
       case measure => simp [intOf]; omega
     ·have hn' : ((S[k]'hlt).toNat : Int) = 32 := by omega
      clear hn
      cases wi
      ·cases bl
       all_goals
        clear h0
        go_wp2
        go_roundw
        case rel => first | exact ⟨k + 1, o, false, true, by omega, by omega, rfl, rfl, rfl, by go_num, hBq, H1⟩ | ((repeat apply Exists.intro); exact ⟨⟨k + 1, o, false, true, by omega, by omega, rfl, rfl, rfl, by go_num, hBq, H1⟩, rfl⟩)
        case measure => simp [intOf]; omega
      ·cases bl
       ·clear h0
        go_wp2
        go_roundw
        case rel => first | exact ⟨k + 1, o, true, true, by omega, by omega, rfl, rfl, rfl, by go_num, hBq, H1⟩ | ((repeat apply Exists.intro); exact ⟨⟨k + 1, o, true, true, by omega, by omega, rfl, rfl, rfl, by go_num, hBq, H1⟩, rfl⟩)
        case measure => simp [intOf]; omega
       ·cases h0
     ·have hn' : ((S[k]'hlt).toNat : Int) = 10 := by omega
      clear hn
      cases wi <;> cases bl
      all_goals
       go_wp2
       go_roundw
       case rel => first | exact ⟨k + 1, o, false, false, by omega, by omega, rfl, rfl, rfl, by go_num, hBq, H1⟩ | ((repeat apply Exists.intro); exact ⟨⟨k + 1, o, false, false, by omega, by omega, rfl, rfl, rfl, by go_num, hBq, H1⟩, rfl⟩)
       case measure => simp [intOf]; omega
     ·have m1 : ¬ ((S[k]'hlt).toNat : Int) = 123 := by omega
      have m2 : ¬ ((S[k]'hlt).toNat : Int) = 125 := by omega
      have m3 : ¬ ((S[k]'hlt).toNat : Int) = 32 := by omega
      have m4 : ¬ ((S[k]'hlt).toNat : Int) = 10 := by omega
      have b1 : (((S[k]'hlt).toNat : Int) == 123) = false := by simpa using m1
      have b2 : (((S[k]'hlt).toNat : Int) == 125) = false := by simpa using m2
      have b3 : (((S[k]'hlt).toNat : Int) == 32) = false := by simpa using m3
      have b4 : (((S[k]'hlt).toNat : Int) == 10) = false := by simpa using m4
      have b5 : (((S[k]'hlt).toNat : Int) != 10) = true := by simpa using m4
      clear n1 n2 n3 n4
      cases wi <;> cases bl
      all_goals
       go_wp2
       go_roundw
       case rel => first | exact ⟨k + 1, o, true, false, by omega, by omega, rfl, rfl, rfl, by go_num, hBq, H1⟩ | ((repeat apply Exists.intro); exact ⟨⟨k + 1, o, true, false, by omega, by omega, rfl, rfl, rfl, by go_num, hBq, H1⟩, rfl⟩)
       case measure => simp [intOf]; omega
    ·obtain rfl : k = S.size := by omega
     have hsc := HSC.out
     rw [List.drop_of_length_le (by simp)] at hsc
     simp only [scan, Option.some.injEq, Prod.mk.injEq] at hsc
     obtain ⟨rfl, rfl, rfl⟩ := hsc
     have hB3 := tr hB2 hBq
     have hA := hAl _ hB3
     have hr3 := rowG_b hr2 hBq
     have z0 := hr3.1 0 (by simp)
     have zl := hr3.2.2
     clear HSC hlt hk ho
     by_cases h0 : S.size = 0
     ·obtain rfl : N = 0 := HK.out.nil.1 h0
      have hse : S = ⟨#[]⟩ := ByteArray.ext (Array.eq_empty_of_size_eq_zero h0)
      subst hse
      clear h0
      go_wp2_with (go_at_call 8; ((with_reducible refine hA.mono ?_); (rintro e w4 ⟨rfl, hb4⟩)))
      go_ret
      exact ⟨rfl, tr hB3 hb4⟩
     ·have hpos : 0 < S.size := by omega
      have hN0 : ((N : Int) == 0) = false := by
       have : N ≠ 0 := fun e => h0 (HK.out.nil.2 e)
       simpa using this
      obtain ⟨m, hm⟩ : ∃ m, S.size = m + 1 := ⟨S.size - 1, by omega⟩
      have hmlt : m < S.size := by omega
      have hlast : ((S[m]'hmlt).toNat : Int) = 10 := by
       have h1 := HK.out.last hpos
       have h2 : S.size - 1 = m := by omega
       simp only [h2] at h1
       rw [h1]; rfl
      have hwr : IntKind.i64.wrap ((S.size : Int) - 1) = (m : Int) := by rw [IntKind.wrap_i64]; omega
      have hne0 : ((S[m]'hmlt).toNat : Int) == 10 := by rw [hlast]; rfl
      have HM := Lib.hid hm
      clear hm
      have hem : S.toList.isEmpty = false := by
       have h8 : S.data.toList.length = S.size := rfl
       rw [ByteArray.toList_eq]
       cases hl : S.data.toList with
       | nil => rw [hl] at h8; exact absurd h8.symm h0
       | cons a r => rfl
      go_wp2_with (go_at_call 8; ((with_reducible refine hA.mono ?_); (rintro e w4 ⟨rfl, hb4⟩)))
      go_ret
      exact ⟨rfl, tr hB3 hb4⟩
 ·have hA := hAl _ hB1
  go_wp2_with (go_at_call 8; ((with_reducible refine hA.mono ?_); (rintro e w6 ⟨rfl, hb6⟩)))
  go_ret
  exact ⟨rfl, tr hB1 hb6⟩
end Go.Proofs.YtkibkaoffgnmkaaGreatDoor
