/- Contract of the reader of programs: a list of expressions. -/
import Derived.Test.YtfpoflddnlbpjaaGreatDoorZmP
namespace Go.Proofs.YtfpoflddnlbpjaaGreatDoor
open Go.ChangeShapes Go.WideShapes Go.ChangeAt Go.RowKit
set_option linter.unusedVariables false
theorem isP_t {T : List Tk} {s : List UInt8} {p : Nat} (h : txt T p = s) : isP T s p = true := by unfold isP; simp [h]
theorem isP_f {T : List Tk} {s : List UInt8} {p : Nat} (h : ¬ txt T p = s) : isP T s p = false := by unfold isP; simp [h]
theorem beP_t {T : List Tk} {s : List UInt8} {p : Nat} (h : txt T p = s) : beP T s p = p + 1 := by unfold beP; rw [if_pos h]
theorem beP_f {T : List Tk} {s : List UInt8} {p : Nat} (h : ¬ txt T p = s) : beP T s p = p := by unfold beP; rw [if_neg h]
def sliceN : Value → Nat
  | .slice _ n _ => n
  | _ => 0
theorem row_form {w : World} {B n : Nat} {e : TypeId} {size : Nat} {v : Value} {xs : List Value} (h : w.ownsRow B e size v n xs) : ∃ (a : Option Addr) (c : Nat), v = .slice a n c := by
  rcases h.2 with ⟨h0, h1⟩ | ⟨g, cap, cur, hv, hg, hh, hr⟩
  · exact ⟨none, 0, by rw [h0, h1]⟩
  · exact ⟨_, _, hv⟩
theorem vx_kx {w w' : World} {u : Value} {x : Xp} (h : VX w w' u x) : ∃ K : Kx, u = .agg #[.int .u8 (K.k : Int), .int .u64 (K.n : Int), .string (str K.s), .int .u8 (K.o : Int), .slice K.ma K.m K.cap] ∧ K.x = x ∧ K.is (fun b => w.heap.size ≤ b ∧ b < w'.heap.size) w' := by
  cases h with
  | @mk k n s o l ma cap ho hl hk => exact ⟨⟨k, n, s, o, ma, l.length, cap, .mk k n s o l⟩, rfl, rfl, IsE.mk ho hl hk⟩

theorem infoXl : (Tryz.prog.info? 52).map (fun i => (i.zero, i.size, i.bytes)) = some (some (.agg #[.int .u8 0, .int .u64 0, .string ⟨#[]⟩, .int .u8 0, .slice none 0 0]), 5, 64) := by kernel_rfl
set_option maxRecDepth 100000 in
set_option maxHeartbeats 8000000 in
theorem listXl_any {w : World} {rb mb : Nat} {v : Value} {T : List (Tk × Int)} {p d n : Nat} (h : IsRs w rb mb v T p d n) (bh : List UInt8) (hbh : bh ≠ []) :
    Calls Tryz.prog 140 #[.pointer (some ⟨rb, 0, none⟩), .func (.func 137) #[] #[], .string (str bh)] w (RP VXs w rb mb v T d (lisR (bareZ T) (expR (bareZ T)) bh p n)) := by
  obtain ⟨i0, hi, hz0, hz1, hz2⟩ := info_parts infoXl
  have hrl := h.rl
  by_cases hc : txt (bareZ T) p = bh
  · have hH0 := has_any h bh hbh
    rw [isP_t hc, beP_t hc] at hH0
    rw [show lisR (bareZ T) (expR (bareZ T)) bh p n = .ok [] (p + 1) n from by unfold lisR; rw [if_pos hc]]
    go_enter Tryz.func140, Tryz.ntmps140
    go_wp2_with (go_at_call 133; ((with_reducible refine hH0.mono ?_); (rintro e w1 ⟨rfl, hO1, hI1⟩)))
    go_ret
    exact .ok hO1 hI1 ⟨none, 0, rfl, by simp, .nil⟩
  have hH0 := has_any h bh hbh
  rw [isP_f hc, beP_f hc] at hH0
  cases r1 : expR (bareZ T) p n with
  | er c q =>
    rw [show lisR (bareZ T) (expR (bareZ T)) bh p n = .er c q from by unfold lisR; rw [if_neg hc, r1]; rfl]
    have h1 := fun w1 (hI1 : IsRs w1 rb mb v T p d n) => expr_any hI1
    rw [r1] at h1
    go_enter Tryz.func140, Tryz.ntmps140
    go_wp2_with (first
      | (go_at_call 133; ((with_reducible refine hH0.mono ?_); (rintro e w1 ⟨rfl, hO1, hI1⟩)))
      | (go_at_call 137; ((with_reducible refine (h1 _ hI1).mono ?_); (rintro e w2 ⟨hO2, he⟩); (unfold Flt at he; subst he))))
    exact ⟨rfl, .er (hO1.trans hO2)⟩
  | ok x q m =>
    have hR0 : lisR (bareZ T) (expR (bareZ T)) bh p n = lisL (bareZ T) (expR (bareZ T)) bh 9 [x] q m := by unfold lisR; rw [if_neg hc, r1]; rfl
    obtain ⟨R, hR⟩ : ∃ R, lisL (bareZ T) (expR (bareZ T)) bh 9 [x] q m = R := ⟨_, rfl⟩
    rw [hR0, hR]
    have h1 := fun w1 (hI1 : IsRs w1 rb mb v T p d n) => expr_any hI1
    rw [r1] at h1
    go_enter Tryz.func140, Tryz.ntmps140
    go_wp2_with (first
      | (go_at_call 133; ((with_reducible refine hH0.mono ?_); (rintro e w1 ⟨rfl, hO1, hI1⟩)))
      | (go_at_call 137; ((with_reducible refine (h1 _ hI1).mono ?_); (rintro e w2 ⟨hO2, hI2, u, rfl, hV2⟩); (obtain ⟨K2, rfl, e2, hK2⟩ := vx_kx hV2))))
    have hP2 := hO1.trans hO2
    have hs2 := hP2.size
    obtain ⟨W, hW⟩ : ∃ W, w2.alloc (.cells #[.int .u8 (K2.k : Int), .int .u64 (K2.n : Int), .string (str K2.s), .int .u8 (K2.o : Int), .slice K2.ma K2.m K2.cap] 52) = W := ⟨_, rfl⟩
    have hBW : Below w2.heap.size w2 W := by rw [← hW]; exact aB (Below.refl _ _) _
    have hown0 : W.ownsRow w.heap.size 52 5 (.slice (some ⟨w2.heap.size, 0, none⟩) 1 1) 1 (kxs [K2]) := by rw [← hW]; exact World.ownsRow_lit w2 #[.int .u8 (K2.k : Int), .int .u64 (K2.n : Int), .string (str K2.s), .int .u8 (K2.o : Int), .slice K2.ma K2.m K2.cap] 1 hs2 (by unfold maxLen; omega) rfl
    have hIW := hI2.of hBW
    have hPW := hP2.trans (ob1 rb hBW)
    have hsW : W.heap.size = w2.heap.size + 1 := by rw [← hW]; simp
    have hK0 : K2.is (fun b => w.heap.size ≤ b ∧ b < W.heap.size ∧ ¬ b = w2.heap.size) W := (IsE.of hK2 hBW).mono (fun b hb => ⟨by have := hb.1; have := hO1.size; omega, by have := hb.2; omega, by have := hb.2; omega⟩)
    rw [hW]
    clear hW h1 hH0
    go_loopw [7] (fun lv wr => ∃ (L : List Kx) (M f p n : Nat), M = L.length ∧ 1 ≤ M ∧ M ≤ 8 ∧ f + M = 10 ∧ lisL (bareZ T) (expR (bareZ T)) bh f (L.map (·.x)) p n = R ∧ wr.ownsRow w.heap.size 52 5 lv M (kxs L) ∧ IsRs wr rb mb v T p d n ∧ Only (fun j => j = rb) w wr ∧ Hid (∀ K ∈ L, K.is (fun b => w.heap.size ≤ b ∧ b < wr.heap.size ∧ ¬ lv.ownBlock = some b) wr)) (fun lv _ => 9 - sliceN lv)
    case atStart => exact ⟨[K2], 1, 9, q, m, rfl, by omega, by omega, rfl, by rw [← hR]; simp [e2], hown0, hIW, hPW, Lib.hid (fun K hK => by rw [List.mem_singleton] at hK; subst hK; exact hK0.mono (fun b hb => ⟨hb.1, hb.2.1, fun e => by simp only [Value.ownBlock, Option.some.injEq] at e; exact hb.2.2 e.symm⟩))⟩
    case round =>
      obtain ⟨L, M, f, p, n, hM, hM1, hM8, hf, hRR, hown, hI, hP, HK⟩ := hrel
      obtain ⟨f, rfl⟩ : ∃ f', f = f' + 1 := ⟨f - 1, by omega⟩
      have HM := Lib.hid hM
      have Hf := Lib.hid hf
      have hsr := hP.size
      obtain ⟨a, c, rfl⟩ := row_form hown
      by_cases hc : txt (bareZ T) p = bh
      · have hH0 := has_any hI bh hbh
        rw [isP_t hc, beP_t hc] at hH0
        have hRe : R = .ok (L.map (·.x)) (p + 1) n := by rw [← hRR]; unfold lisL; rw [if_pos hc]
        clear hM hf
        go_wp2_with (go_at_call 133; ((with_reducible refine hH0.mono ?_); (rintro e w3 ⟨rfl, hO3, hI3⟩)))
        go_ret
        rw [hRe]
        obtain ⟨mk, ck, hmk, hkk⟩ := row_kids hown HM.out HK.out
        simp only [Value.slice.injEq, true_and] at hmk
        obtain ⟨rfl, rfl⟩ := hmk
        exact .ok (u := .slice a M c) (hP.trans hO3) hI3 ⟨a, c, by rw [List.length_map, ← HM.out], by rw [List.length_map, ← HM.out]; omega, (hkk.only hO3 (fun b hb e => by have := hb.1; have e2 : b = rb := e; omega)).mono (fun b hb => ⟨hb.1, Nat.lt_of_lt_of_le hb.2 hO3.size⟩)⟩
      have hH0 := has_any hI bh hbh
      rw [isP_f hc, beP_f hc] at hH0
      have hT0 : ∀ {W : World}, IsRs W rb mb v T p d n → Calls Tryz.prog 136 #[.pointer (some ⟨rb, 0, none⟩), .string ⟨#[44]⟩] W (RP VU W rb mb v T d (takR (bareZ T) [44] p n)) := fun h => take_any h [44] (by decide)
      rw [show lisL (bareZ T) (expR (bareZ T)) bh (f + 1) (L.map (·.x)) p n = (takR (bareZ T) [44] p n).next fun _ p n => if (L.map (·.x)).length = 8 then .er 5 p else (expR (bareZ T) p n).next fun x p n => lisL (bareZ T) (expR (bareZ T)) bh f ((L.map (·.x)) ++ [x]) p n from by rw [lisL, if_neg hc]] at hRR
      have hxl : (L.map (·.x)).length = M := by simp [HM.out]
      rw [hxl] at hRR
      cases r3 : takR (bareZ T) [44] p n with
      | er c3 q3 =>
        rw [r3] at hRR hT0
        simp only [Rz.next] at hRR
        rw [← hRR]
        clear hM hf hRR
        go_wp2_with (first
          | (go_at_call 133; ((with_reducible refine hH0.mono ?_); (rintro e w3 ⟨rfl, hO3, hI3⟩)))
          | (go_at_call 136; ((with_reducible refine (hT0 hI3).mono ?_); (rintro e w4 ⟨hO4, he⟩); (unfold Flt at he; subst he))))
        exact ⟨rfl, .er ((hP.trans hO3).trans hO4)⟩
      | ok u3 q3 m3 =>
        rw [r3] at hRR hT0
        simp only [Rz.next] at hRR
        by_cases hM8' : M = 8
        · rw [if_pos hM8'] at hRR
          rw [← hRR]
          have h8 : ((M : Int) == 8) = true := by simp; omega
          have hS := fun W (hW : IsRs W rb mb v T q3 d m3) => stop_any hW 5 5 rfl
          clear hM hf hRR hM8'
          go_wp2_with (first
            | (go_at_call 133; ((with_reducible refine hH0.mono ?_); (rintro e w3 ⟨rfl, hO3, hI3⟩)))
            | (go_at_call 136; ((with_reducible refine (hT0 hI3).mono ?_); (rintro e w4 ⟨hO4, hI4, u4, rfl, hV4⟩); (unfold VU at hV4; subst hV4)))
            | (go_at_call 109; ((with_reducible refine (hS _ hI4).mono ?_); (rintro e w5 ⟨he, k, rfl⟩); (unfold Flt at he; subst he))))
          exact ⟨rfl, .er (only_drew ((hP.trans hO3).trans hO4) k)⟩
        rw [if_neg hM8'] at hRR
        have h8 : ((M : Int) == 8) = false := by simp; omega
        have h1 := fun w1 (hI1 : IsRs w1 rb mb v T q3 d m3) => expr_any hI1
        cases r5 : expR (bareZ T) q3 m3 with
        | er c5 q5 =>
          rw [r5] at hRR h1
          simp only at hRR
          rw [← hRR]
          clear hM hf hRR hM8'
          go_wp2_with (first
            | (go_at_call 133; ((with_reducible refine hH0.mono ?_); (rintro e w3 ⟨rfl, hO3, hI3⟩)))
            | (go_at_call 136; ((with_reducible refine (hT0 hI3).mono ?_); (rintro e w4 ⟨hO4, hI4, u4, rfl, hV4⟩); (unfold VU at hV4; subst hV4)))
            | (go_at_call 137; ((with_reducible refine (h1 _ hI4).mono ?_); (rintro e w5 ⟨hO5, he⟩); (unfold Flt at he; subst he))))
          exact ⟨rfl, .er (((hP.trans hO3).trans hO4).trans hO5)⟩
        | ok x5 q5 m5 =>
          rw [r5] at hRR h1
          simp only at hRR
          have Hne := Lib.hid hM8'
          clear hM hf hM8'
          go_wp2_with (first
            | (go_at_call 133; ((with_reducible refine hH0.mono ?_); (rintro e w3 ⟨rfl, hO3, hI3⟩)))
            | (go_at_call 136; ((with_reducible refine (hT0 hI3).mono ?_); (rintro e w4 ⟨hO4, hI4, u4, rfl, hV4⟩); (unfold VU at hV4; subst hV4)))
            | (go_at_call 137; ((with_reducible refine (h1 _ hI4).mono ?_); (rintro e w5 ⟨hO5, hI5, u5, rfl, hV5⟩); (obtain ⟨K5, rfl, e5, hK5⟩ := vx_kx hV5); (have hO35 := (hO3.trans hO4).trans hO5); (have ho5 := own_only hown hO35 (fun j hj e => by have := own_lt hown hj; have e2 : j = rb := e; omega))))
            | (at_builtin; refine wpList_append_lies _ rfl _ _ 40 rfl w.heap.size 52 i0 _ 5 64 Tryz.underlying40 hi hz0 hz1 hz2 rfl (by decide) _ M (kxs L) rfl (ho5.alloc _) ⟨w5.heap.size, 0, none⟩ 1 1 (kxs [K5]) rfl rfl ?cN ?c0 (by decide) ?c1 ?c2 ?c3 _ rfl ?_))
          case cN => exact news_ok (kxs [K5]) 52 w5
          case c0 => exact kxs_one _
          case c1 => unfold maxLen; omega
          case c2 => omega
          case c3 => have := hO35.size; simp; omega
          obtain ⟨wa, hwa⟩ : ∃ wa, w5.alloc (.cells #[.int .u8 (K5.k : Int), .int .u64 (K5.n : Int), .string (str K5.s), .int .u8 (K5.o : Int), .slice K5.ma K5.m K5.cap] 52) = wa := ⟨_, rfl⟩
          have hba : Below w5.heap.size w5 wa := by rw [← hwa]; exact aB (Below.refl _ _) _
          intro g cap' w6 hown6 hgrow hat hlt6
          rw [hwa] at hgrow
          have hsz : wa.heap.size = w5.heap.size + 1 := by rw [← hwa]; simp
          have hs5 := hO35.size
          have hog := only_grown hgrow
          have hP5 : Only (fun j => j = rb) w w5 := hP.trans hO35
          have hIa : IsRs wa rb mb v T q5 d m5 := hI5.of hba
          have hnew : ∀ j, some j = (Value.slice a M c).ownBlock → w.heap.size ≤ j := fun j hj => (own_lt hown hj.symm).1
          have hI6 : IsRs w6 rb mb v T q5 d m5 := h.newer hIa (hog.mono hnew)
          have hP6 : Only (fun j => j = rb) w w6 := (hP5.trans (ob1 rb hba)).old hog (fun j hj => .inr (hnew j hj))
          go_wp2
          go_roundw
          case rel =>
            have hall : ∀ K ∈ L ++ [K5], K.is (fun b => w.heap.size ≤ b ∧ b < wa.heap.size ∧ ¬ (Value.slice a M c).ownBlock = some b) wa := fun K hK => by
              rcases List.mem_append.1 hK with h1 | h1
              · exact (IsE.of (IsE.only (HK.out K h1) hO35 (fun b hb e => by have := hb.1; have e2 : b = rb := e; omega)) hba).mono (fun b hb => ⟨hb.1, by have := hb.2.1; omega, hb.2.2⟩)
              · obtain rfl := List.mem_singleton.1 h1
                exact (IsE.of hK5 hba).mono (fun b hb => ⟨by have := hb.1; have := hO3.size; have := hO4.size; omega, by have := hb.2; omega, fun e => by have := own_lt hown e; have := hb.1; have := hO3.size; have := hO4.size; omega⟩)
            have hall6 := kx_append hgrow hat hsz _ hall (M + 1) cap'
            exact ⟨L ++ [K5], M + 1, f, q5, m5, by simp [HM.out], by omega, by have := Hne.out; omega, by have := Hf.out; omega, by rw [← hRR]; simp [e5], by rw [kxs_app]; exact hown6, hI6, hP6, Lib.hid hall6⟩
          case measure => simp [sliceN]; omega
end Go.Proofs.YtfpoflddnlbpjaaGreatDoor

/- Contract of the reader of programs: a list of names. -/
namespace Go.Proofs.YtfpoflddnlbpjaaGreatDoor
open Go.ChangeShapes Go.WideShapes Go.ChangeAt Go.RowKit
set_option linter.unusedVariables false

theorem infoSl : (Tryz.prog.info? 9).map (fun i => (i.zero, i.size, i.bytes)) = some (some (.string ⟨#[]⟩), 1, 16) := by kernel_rfl
set_option maxRecDepth 100000 in
set_option maxHeartbeats 8000000 in
theorem listSl_any {w : World} {rb mb : Nat} {v : Value} {T : List (Tk × Int)} {p d n : Nat} (h : IsRs w rb mb v T p d n) (bh : List UInt8) (hbh : bh ≠ []) :
    Calls Tryz.prog 141 #[.pointer (some ⟨rb, 0, none⟩), .func (.func 134) #[] #[], .string (str bh)] w (RP VA w rb mb v T d (lisR (bareZ T) (namR (bareZ T)) bh p n)) := by
  obtain ⟨i0, hi, hz0, hz1, hz2⟩ := info_parts infoSl
  have hrl := h.rl
  by_cases hc : txt (bareZ T) p = bh
  · have hH0 := has_any h bh hbh
    rw [isP_t hc, beP_t hc] at hH0
    rw [show lisR (bareZ T) (namR (bareZ T)) bh p n = .ok [] (p + 1) n from by unfold lisR; rw [if_pos hc]]
    go_enter Tryz.func141, Tryz.ntmps141
    go_wp2_with (go_at_call 133; ((with_reducible refine hH0.mono ?_); (rintro e w1 ⟨rfl, hO1, hI1⟩)))
    go_ret
    exact .ok hO1 hI1 ⟨none, 0, rfl, by simp, .nil⟩
  have hH0 := has_any h bh hbh
  rw [isP_f hc, beP_f hc] at hH0
  cases r1 : namR (bareZ T) p n with
  | er c q =>
    rw [show lisR (bareZ T) (namR (bareZ T)) bh p n = .er c q from by unfold lisR; rw [if_neg hc, r1]; rfl]
    have h1 := fun w1 (hI1 : IsRs w1 rb mb v T p d n) => nam_any hI1
    rw [r1] at h1
    go_enter Tryz.func141, Tryz.ntmps141
    go_wp2_with (first
      | (go_at_call 133; ((with_reducible refine hH0.mono ?_); (rintro e w1 ⟨rfl, hO1, hI1⟩)))
      | (go_at_call 134; ((with_reducible refine (h1 _ hI1).mono ?_); (rintro e w2 ⟨hO2, he⟩); (unfold Flt at he; subst he))))
    exact ⟨rfl, .er (hO1.trans hO2)⟩
  | ok x q m =>
    have hR0 : lisR (bareZ T) (namR (bareZ T)) bh p n = lisL (bareZ T) (namR (bareZ T)) bh 9 [x] q m := by unfold lisR; rw [if_neg hc, r1]; rfl
    obtain ⟨R, hR⟩ : ∃ R, lisL (bareZ T) (namR (bareZ T)) bh 9 [x] q m = R := ⟨_, rfl⟩
    rw [hR0, hR]
    have h1 := fun w1 (hI1 : IsRs w1 rb mb v T p d n) => nam_any hI1
    rw [r1] at h1
    go_enter Tryz.func141, Tryz.ntmps141
    go_wp2_with (first
      | (go_at_call 133; ((with_reducible refine hH0.mono ?_); (rintro e w1 ⟨rfl, hO1, hI1⟩)))
      | (go_at_call 134; ((with_reducible refine (h1 _ hI1).mono ?_); (rintro e w2 ⟨hO2, hI2, u, rfl, hV2⟩); (unfold VN at hV2; subst hV2))))
    have hP2 := hO1.trans hO2
    have hs2 := hP2.size
    obtain ⟨W, hW⟩ : ∃ W, w2.alloc (.cells #[.string (str x)] 9) = W := ⟨_, rfl⟩
    have hBW : Below w2.heap.size w2 W := by rw [← hW]; exact aB (Below.refl _ _) _
    have hown0 : W.ownsRow w.heap.size 9 1 (.slice (some ⟨w2.heap.size, 0, none⟩) 1 1) 1 (strC [x]) := by rw [← hW]; exact World.ownsRow_lit w2 #[.string (str x)] 1 hs2 (by unfold maxLen; omega) rfl
    have hIW := hI2.of hBW
    have hPW := hP2.trans (ob1 rb hBW)
    have hsW : W.heap.size = w2.heap.size + 1 := by rw [← hW]; simp
    rw [hW]
    clear hW h1 hH0
    go_loopw [7] (fun lv wr => ∃ (L : List (List UInt8)) (M f p n : Nat), M = L.length ∧ 1 ≤ M ∧ M ≤ 8 ∧ f + M = 10 ∧ lisL (bareZ T) (namR (bareZ T)) bh f (L) p n = R ∧ wr.ownsRow w.heap.size 9 1 lv M (strC L) ∧ IsRs wr rb mb v T p d n ∧ Only (fun j => j = rb) w wr) (fun lv _ => 9 - sliceN lv)
    case atStart => exact ⟨[x], 1, 9, q, m, rfl, by omega, by omega, rfl, hR, hown0, hIW, hPW⟩
    case round =>
      obtain ⟨L, M, f, p, n, hM, hM1, hM8, hf, hRR, hown, hI, hP⟩ := hrel
      obtain ⟨f, rfl⟩ : ∃ f', f = f' + 1 := ⟨f - 1, by omega⟩
      have HM := Lib.hid hM
      have Hf := Lib.hid hf
      have hsr := hP.size
      obtain ⟨a, c, rfl⟩ := row_form hown
      by_cases hc : txt (bareZ T) p = bh
      · have hH0 := has_any hI bh hbh
        rw [isP_t hc, beP_t hc] at hH0
        have hRe : R = .ok (L) (p + 1) n := by rw [← hRR]; unfold lisL; rw [if_pos hc]
        clear hM hf
        go_wp2_with (go_at_call 133; ((with_reducible refine hH0.mono ?_); (rintro e w3 ⟨rfl, hO3, hI3⟩)))
        go_ret
        rw [hRe]
        have ho3 := own_only hown hO3 (fun j hj e => by have := own_lt hown hj; have e2 : j = rb := e; omega)
        exact .ok (u := .slice a M c) (hP.trans hO3) hI3 ⟨a, c, by rw [← HM.out], by rw [← HM.out]; omega, strs_own ho3 HM.out⟩
      have hH0 := has_any hI bh hbh
      rw [isP_f hc, beP_f hc] at hH0
      have hT0 : ∀ {W : World}, IsRs W rb mb v T p d n → Calls Tryz.prog 136 #[.pointer (some ⟨rb, 0, none⟩), .string ⟨#[44]⟩] W (RP VU W rb mb v T d (takR (bareZ T) [44] p n)) := fun h => take_any h [44] (by decide)
      rw [show lisL (bareZ T) (namR (bareZ T)) bh (f + 1) (L) p n = (takR (bareZ T) [44] p n).next fun _ p n => if (L).length = 8 then .er 5 p else (namR (bareZ T) p n).next fun x p n => lisL (bareZ T) (namR (bareZ T)) bh f ((L) ++ [x]) p n from by rw [lisL, if_neg hc]] at hRR
      have hxl : (L).length = M := by simp [HM.out]
      rw [hxl] at hRR
      cases r3 : takR (bareZ T) [44] p n with
      | er c3 q3 =>
        rw [r3] at hRR hT0
        simp only [Rz.next] at hRR
        rw [← hRR]
        clear hM hf hRR
        go_wp2_with (first
          | (go_at_call 133; ((with_reducible refine hH0.mono ?_); (rintro e w3 ⟨rfl, hO3, hI3⟩)))
          | (go_at_call 136; ((with_reducible refine (hT0 hI3).mono ?_); (rintro e w4 ⟨hO4, he⟩); (unfold Flt at he; subst he))))
        exact ⟨rfl, .er ((hP.trans hO3).trans hO4)⟩
      | ok u3 q3 m3 =>
        rw [r3] at hRR hT0
        simp only [Rz.next] at hRR
        by_cases hM8' : M = 8
        · rw [if_pos hM8'] at hRR
          rw [← hRR]
          have h8 : ((M : Int) == 8) = true := by simp; omega
          have hS := fun W (hW : IsRs W rb mb v T q3 d m3) => stop_any hW 5 5 rfl
          clear hM hf hRR hM8'
          go_wp2_with (first
            | (go_at_call 133; ((with_reducible refine hH0.mono ?_); (rintro e w3 ⟨rfl, hO3, hI3⟩)))
            | (go_at_call 136; ((with_reducible refine (hT0 hI3).mono ?_); (rintro e w4 ⟨hO4, hI4, u4, rfl, hV4⟩); (unfold VU at hV4; subst hV4)))
            | (go_at_call 109; ((with_reducible refine (hS _ hI4).mono ?_); (rintro e w5 ⟨he, k, rfl⟩); (unfold Flt at he; subst he))))
          exact ⟨rfl, .er (only_drew ((hP.trans hO3).trans hO4) k)⟩
        rw [if_neg hM8'] at hRR
        have h8 : ((M : Int) == 8) = false := by simp; omega
        have h1 := fun w1 (hI1 : IsRs w1 rb mb v T q3 d m3) => nam_any hI1
        cases r5 : namR (bareZ T) q3 m3 with
        | er c5 q5 =>
          rw [r5] at hRR h1
          simp only at hRR
          rw [← hRR]
          clear hM hf hRR hM8'
          go_wp2_with (first
            | (go_at_call 133; ((with_reducible refine hH0.mono ?_); (rintro e w3 ⟨rfl, hO3, hI3⟩)))
            | (go_at_call 136; ((with_reducible refine (hT0 hI3).mono ?_); (rintro e w4 ⟨hO4, hI4, u4, rfl, hV4⟩); (unfold VU at hV4; subst hV4)))
            | (go_at_call 134; ((with_reducible refine (h1 _ hI4).mono ?_); (rintro e w5 ⟨hO5, he⟩); (unfold Flt at he; subst he))))
          exact ⟨rfl, .er (((hP.trans hO3).trans hO4).trans hO5)⟩
        | ok x5 q5 m5 =>
          rw [r5] at hRR h1
          simp only at hRR
          have Hne := Lib.hid hM8'
          clear hM hf hM8'
          go_wp2_with (first
            | (go_at_call 133; ((with_reducible refine hH0.mono ?_); (rintro e w3 ⟨rfl, hO3, hI3⟩)))
            | (go_at_call 136; ((with_reducible refine (hT0 hI3).mono ?_); (rintro e w4 ⟨hO4, hI4, u4, rfl, hV4⟩); (unfold VU at hV4; subst hV4)))
            | (go_at_call 134; ((with_reducible refine (h1 _ hI4).mono ?_); (rintro e w5 ⟨hO5, hI5, u5, rfl, hV5⟩); (unfold VN at hV5; subst hV5); (have hO35 := (hO3.trans hO4).trans hO5); (have ho5 := own_only hown hO35 (fun j hj e => by have := own_lt hown hj; have e2 : j = rb := e; omega))))
            | (at_builtin; refine wpList_append_lies _ rfl _ _ 41 rfl w.heap.size 9 i0 _ 1 16 Tryz.underlying41 hi hz0 hz1 hz2 rfl (by decide) _ M (strC L) rfl (ho5.alloc _) ⟨w5.heap.size, 0, none⟩ 1 1 (strC [x5]) rfl rfl ?cN ?c0 (by decide) ?c1 ?c2 ?c3 _ rfl ?_))
          case cN => exact news_ok (strC [x5]) 9 w5
          case c0 => exact strC_one _
          case c1 => unfold maxLen; omega
          case c2 => omega
          case c3 => have := hO35.size; simp; omega
          obtain ⟨wa, hwa⟩ : ∃ wa, w5.alloc (.cells #[.string (str x5)] 9) = wa := ⟨_, rfl⟩
          have hba : Below w5.heap.size w5 wa := by rw [← hwa]; exact aB (Below.refl _ _) _
          intro g cap' w6 hown6 hgrow hat hlt6
          rw [hwa] at hgrow
          have hsz : wa.heap.size = w5.heap.size + 1 := by rw [← hwa]; simp
          have hs5 := hO35.size
          have hog := only_grown hgrow
          have hP5 : Only (fun j => j = rb) w w5 := hP.trans hO35
          have hIa : IsRs wa rb mb v T q5 d m5 := hI5.of hba
          have hnew : ∀ j, some j = (Value.slice a M c).ownBlock → w.heap.size ≤ j := fun j hj => (own_lt hown hj.symm).1
          have hI6 : IsRs w6 rb mb v T q5 d m5 := h.newer hIa (hog.mono hnew)
          have hP6 : Only (fun j => j = rb) w w6 := (hP5.trans (ob1 rb hba)).old hog (fun j hj => .inr (hnew j hj))
          go_wp2
          go_roundw
          case rel => exact ⟨L ++ [x5], M + 1, f, q5, m5, by simp [HM.out], by omega, by have := Hne.out; omega, by have := Hf.out; omega, hRR, by rw [strC_app]; exact hown6, hI6, hP6⟩
          case measure => simp [sliceN]; omega
end Go.Proofs.YtfpoflddnlbpjaaGreatDoor

/- Contracts of the reader of programs: statements without blocks. -/
namespace Go.Proofs.YtfpoflddnlbpjaaGreatDoor
open Go.ChangeShapes Go.WideShapes Go.ChangeAt Go.RowKit
set_option linter.unusedVariables false

set_option maxRecDepth 100000 in
set_option maxHeartbeats 8000000 in
theorem lent_any {w : World} {rb mb : Nat} {v : Value} {T : List (Tk × Int)} {p d n : Nat} (h : IsRs w rb mb v T p d n) {blk : Nat → Nat → Rz (List St)} (hK : BlkC rb mb v T d blk) (mu : Bool) :
    Calls Tryz.prog 139 #[.pointer (some ⟨rb, 0, none⟩), .bool mu] w (RP VS w rb mb v T d (lenR (bareZ T) blk mu p n)) := by
  have hrl := h.rl
  unfold BlkC at hK
  have hT1 : ∀ {W : World} {p n : Nat}, IsRs W rb mb v T p d n → Calls Tryz.prog 136 #[.pointer (some ⟨rb, 0, none⟩), .string ⟨#[61]⟩] W (RP VU W rb mb v T d (takR (bareZ T) [61] p n)) := fun h => take_any h [61] (by decide)
  have hB : ∀ {W : World} {p n : Nat}, IsRs W rb mb v T p d n → Calls Tryz.prog 135 #[.pointer (some ⟨rb, 0, none⟩), .string ⟨#[91]⟩, .string ⟨#[46, 46]⟩] W (RP VX W rb mb v T d (betR (bareZ T) [91] [46, 46] p n)) := fun h => betw_any h [91] [46, 46] (by decide) (by decide)
  have hT2 : ∀ {W : World} {p n : Nat}, IsRs W rb mb v T p d n → Calls Tryz.prog 136 #[.pointer (some ⟨rb, 0, none⟩), .string ⟨#[93]⟩] W (RP VU W rb mb v T d (takR (bareZ T) [93] p n)) := fun h => take_any h [93] (by decide)
  unfold lenR
  go_enter Tryz.func139, Tryz.ntmps139
  go_wp2_with (first
    | (go_at_call 134; ((with_reducible refine (nam_any (h.newer h (only_alloc (Only.refl _ _) _))).mono ?_); (rintro e w1 ⟨hO1, hR1⟩); (have hP1 : Only (fun j => j = rb) w w1 := ((Only.refl _ _).old (only_alloc (Only.refl _ _) _) (fun j hj => .inr hj)).trans hO1); (have hs1 := hO1.size); (simp only [World.size_alloc] at hs1); (have hZ1 : rowG #[.int .u8 0, .string ⟨#[]⟩, .string ⟨#[]⟩, .bool false, .bool false, .slice none 0 0, .slice none 0 0, .slice none 0 0, .slice none 0 0] w1 (w.heap.size) := rowG_only (rowG_at #[.int .u8 0, .string ⟨#[]⟩, .string ⟨#[]⟩, .bool false, .bool false, .slice none 0 0, .slice none 0 0, .slice none 0 0, .slice none 0 0] 44 w (w.heap.size) (by simp)) hO1 (by omega)); (rcases r1 : namR (bareZ T) p n with ⟨c1, q1⟩ | ⟨x1, q1, m1⟩) <;> (rw [r1] at hR1; first | (unfold Flt at hR1; subst hR1) | (obtain ⟨hI1, z1, rfl, hV1⟩ := hR1; (unfold VN at hV1; subst hV1)))))
    | (go_at_call 136; ((with_reducible refine (hT1 (h.newer hI1 (only_alloc (Only.refl _ _) _))).mono ?_); (rintro e w2 ⟨hO2, hR2⟩); (have hP2 : Only (fun j => j = rb) w w2 := (hP1.old (only_alloc (Only.refl _ _) _) (fun j hj => .inr hj)).trans hO2); (have hs2 := hO2.size); (simp only [World.size_alloc] at hs2); (have hZ2 : rowG #[.int .u8 0, .string ⟨#[]⟩, .string ⟨#[]⟩, .bool false, .bool false, .slice none 0 0, .slice none 0 0, .slice none 0 0, .slice none 0 0] w2 (w.heap.size) := rowG_only (rowG_alloc hZ1 _) hO2 (by omega)); (have hS2 : rowG #[.int .u8 8, .string (str x1), .string ⟨#[]⟩, .bool false, .bool mu, .slice none 0 0, .slice none 0 0, .slice none 0 0, .slice none 0 0] w2 (w1.heap.size) := rowG_only (rowG_at #[.int .u8 8, .string (str x1), .string ⟨#[]⟩, .bool false, .bool mu, .slice none 0 0, .slice none 0 0, .slice none 0 0, .slice none 0 0] 44 w1 (w1.heap.size) (by simp)) hO2 (by omega)); (rcases r2 : takR (bareZ T) [61] q1 m1 with ⟨c2, q2⟩ | ⟨x2, q2, m2⟩) <;> (rw [r2] at hR2; first | (unfold Flt at hR2; subst hR2) | (obtain ⟨hI2, z2, rfl, hV2⟩ := hR2; (unfold VU at hV2; subst hV2)))))
    | (go_at_call 134; ((with_reducible refine (nam_any hI2).mono ?_); (rintro e w3 ⟨hO3, hR3⟩); (have hP3 : Only (fun j => j = rb) w w3 := hP2.trans hO3); (have hs3 := hO3.size); (have hZ3 : rowG #[.int .u8 0, .string ⟨#[]⟩, .string ⟨#[]⟩, .bool false, .bool false, .slice none 0 0, .slice none 0 0, .slice none 0 0, .slice none 0 0] w3 (w.heap.size) := rowG_only hZ2 hO3 (by omega)); (have hS3 : rowG #[.int .u8 8, .string (str x1), .string ⟨#[]⟩, .bool false, .bool mu, .slice none 0 0, .slice none 0 0, .slice none 0 0, .slice none 0 0] w3 (w1.heap.size) := rowG_only hS2 hO3 (by omega)); (rcases r3 : namR (bareZ T) q2 m2 with ⟨c3, q3⟩ | ⟨x3, q3, m3⟩) <;> (rw [r3] at hR3; first | (unfold Flt at hR3; subst hR3) | (obtain ⟨hI3, z3, rfl, hV3⟩ := hR3; (unfold VN at hV3; subst hV3); (have fS2_3 := hS3.1 2 (by simp)); (have ffS_3 := hS3.2.1); (have flS_3 := hS3.2.2)))))
    | (go_at_call 135; ((with_reducible refine (hB (h.newer hI3 (only_set (Only.refl _ _) _ _ _ (by omega)))).mono ?_); (rintro e w4 ⟨hO4, hR4⟩); (have hP4 : Only (fun j => j = rb) w w4 := (hP3.old (only_set (Only.refl _ _) _ _ _ (by omega)) (fun j hj => .inr hj)).trans hO4); (have hs4 := hO4.size); (simp only [World.size_setCell] at hs4); (have hZ4 : rowG #[.int .u8 0, .string ⟨#[]⟩, .string ⟨#[]⟩, .bool false, .bool false, .slice none 0 0, .slice none 0 0, .slice none 0 0, .slice none 0 0] w4 (w.heap.size) := rowG_only (rowG_other _ hZ3 (by omega)) hO4 (by omega)); (have hS4 : rowG #[.int .u8 8, .string (str x1), .string (str x3), .bool false, .bool mu, .slice none 0 0, .slice none 0 0, .slice none 0 0, .slice none 0 0] w4 (w1.heap.size) := rowG_only (r9s2 (.string (str x3)) hS3) hO4 (by omega)); (rcases r4 : betR (bareZ T) [91] [46, 46] q3 m3 with ⟨c4, q4⟩ | ⟨x4, q4, m4⟩) <;> (rw [r4] at hR4; first | (unfold Flt at hR4; subst hR4) | (obtain ⟨hI4, z4, rfl, hV4⟩ := hR4; (obtain ⟨k4, n4, s4, o4, mk4, mm4, cap4, rfl⟩ := vx_form hV4)))))
    | (go_at_call 137; ((with_reducible refine (expr_any hI4).mono ?_); (rintro e w5 ⟨hO5, hR5⟩); (have hP5 : Only (fun j => j = rb) w w5 := hP4.trans hO5); (have hs5 := hO5.size); (have hZ5 : rowG #[.int .u8 0, .string ⟨#[]⟩, .string ⟨#[]⟩, .bool false, .bool false, .slice none 0 0, .slice none 0 0, .slice none 0 0, .slice none 0 0] w5 (w.heap.size) := rowG_only hZ4 hO5 (by omega)); (have hS5 : rowG #[.int .u8 8, .string (str x1), .string (str x3), .bool false, .bool mu, .slice none 0 0, .slice none 0 0, .slice none 0 0, .slice none 0 0] w5 (w1.heap.size) := rowG_only hS4 hO5 (by omega)); (have hE4_5 := (hV4).only hO5 (fun b hb e => by have := hb.1; have := hb.2; simp at *; omega)); (rcases r5 : expR (bareZ T) q4 m4 with ⟨c5, q5⟩ | ⟨x5, q5, m5⟩) <;> (rw [r5] at hR5; first | (unfold Flt at hR5; subst hR5) | (obtain ⟨hI5, z5, rfl, hV5⟩ := hR5; (obtain ⟨k5, n5, s5, o5, mk5, mm5, cap5, rfl⟩ := vx_form hV5); (have fS5_5 := hS5.1 5 (by simp)); (have ffS_5 := hS5.2.1); (have flS_5 := hS5.2.2)))))
    | (go_at_call 136; ((with_reducible refine (hT2 (h.newer hI5 (only_alloc (only_set (Only.refl _ _) _ _ _ (by omega)) _))).mono ?_); (rintro e w6 ⟨hO6, hR6⟩); (have hP6 : Only (fun j => j = rb) w w6 := (hP5.old (only_alloc (only_set (Only.refl _ _) _ _ _ (by omega)) _) (fun j hj => .inr hj)).trans hO6); (have hs6 := hO6.size); (simp only [World.size_alloc, World.size_setCell] at hs6); (have hZ6 : rowG #[.int .u8 0, .string ⟨#[]⟩, .string ⟨#[]⟩, .bool false, .bool false, .slice none 0 0, .slice none 0 0, .slice none 0 0, .slice none 0 0] w6 (w.heap.size) := rowG_only (rowG_alloc (rowG_other _ hZ5 (by omega)) _) hO6 (by omega)); (have hS6 : rowG #[.int .u8 8, .string (str x1), .string (str x3), .bool false, .bool mu, .slice (some ⟨w5.heap.size, 0, none⟩) 2 2, .slice none 0 0, .slice none 0 0, .slice none 0 0] w6 (w1.heap.size) := rowG_only (rowG_alloc (r9s5 (.slice (some ⟨w5.heap.size, 0, none⟩) 2 2) hS5) _) hO6 (by omega)); (have hK6 : rowG #[.int .u8 k4, .int .u64 n4, .string s4, .int .u8 o4, .slice mk4 mm4 cap4, .int .u8 k5, .int .u64 n5, .string s5, .int .u8 o5, .slice mk5 mm5 cap5] w6 (w5.heap.size) := rowG_only (rowG_at #[.int .u8 k4, .int .u64 n4, .string s4, .int .u8 o4, .slice mk4 mm4 cap4, .int .u8 k5, .int .u64 n5, .string s5, .int .u8 o5, .slice mk5 mm5 cap5] 52 (w5.setCell ⟨w1.heap.size, 5, none⟩ (.slice (some ⟨w5.heap.size, 0, none⟩) 2 2)) (w5.heap.size) (by simp)) hO6 (by omega)); (have hE4_6 := (((hE4_5.only (os1 (or1 (w1.heap.size) _) 5 (.slice (some ⟨w5.heap.size, 0, none⟩) 2 2)) (fun b hb e => by have := hb.1; have := hb.2; simp at *; omega)).of (aB (Below.refl _ _) _))).only hO6 (fun b hb e => by have := hb.1; have := hb.2; simp at *; omega)); (have hE5_6 := (((hV5.only (os1 (or1 (w1.heap.size) _) 5 (.slice (some ⟨w5.heap.size, 0, none⟩) 2 2)) (fun b hb e => by have := hb.1; have := hb.2; simp at *; omega)).of (aB (Below.refl _ _) _))).only hO6 (fun b hb e => by have := hb.1; have := hb.2; simp at *; omega)); (rcases r6 : takR (bareZ T) [93] q5 m5 with ⟨c6, q6⟩ | ⟨x6, q6, m6⟩) <;> (rw [r6] at hR6; first | (unfold Flt at hR6; subst hR6) | (obtain ⟨hI6, z6, rfl, hV6⟩ := hR6; (unfold VU at hV6; subst hV6)))))
    | (go_at_call 138; ((with_reducible refine (hK hI6).mono ?_); (rintro e w7 ⟨hO7, hR7⟩); (have hP7 : Only (fun j => j = rb) w w7 := hP6.trans hO7); (have hs7 := hO7.size); (have hZ7 : rowG #[.int .u8 0, .string ⟨#[]⟩, .string ⟨#[]⟩, .bool false, .bool false, .slice none 0 0, .slice none 0 0, .slice none 0 0, .slice none 0 0] w7 (w.heap.size) := rowG_only hZ6 hO7 (by omega)); (have hS7 : rowG #[.int .u8 8, .string (str x1), .string (str x3), .bool false, .bool mu, .slice (some ⟨w5.heap.size, 0, none⟩) 2 2, .slice none 0 0, .slice none 0 0, .slice none 0 0] w7 (w1.heap.size) := rowG_only hS6 hO7 (by omega)); (have hK7 : rowG #[.int .u8 k4, .int .u64 n4, .string s4, .int .u8 o4, .slice mk4 mm4 cap4, .int .u8 k5, .int .u64 n5, .string s5, .int .u8 o5, .slice mk5 mm5 cap5] w7 (w5.heap.size) := rowG_only hK6 hO7 (by omega)); (have hE4_7 := (hE4_6).only hO7 (fun b hb e => by have := hb.1; have := hb.2; simp at *; omega)); (have hE5_7 := (hE5_6).only hO7 (fun b hb e => by have := hb.1; have := hb.2; simp at *; omega)); (rcases r7 : blk q6 m6 with ⟨c7, q7⟩ | ⟨x7, q7, m7⟩) <;> (rw [r7] at hR7; first | (unfold Flt at hR7; subst hR7) | (obtain ⟨hI7, z7, rfl, hV7⟩ := hR7; (obtain ⟨mk7, cap7, rfl, hL7, hE7⟩ := hV7); (have fS7_7 := hS7.1 7 (by simp)); (have ffS_7 := hS7.2.1); (have flS_7 := hS7.2.2)))))
    | (with_reducible refine ld9 rfl _ rfl (w1.heap.size) rfl (show rowG #[.int .u8 8, .string (str x1), .string (str x3), .bool false, .bool mu, .slice (some ⟨w5.heap.size, 0, none⟩) 2 2, .slice none 0 0, .slice mk7 x7.length cap7, .slice none 0 0] _ _ from (r9s7 (.slice mk7 x7.length cap7) hS7)) ?_)
    | (with_reducible refine st9 rfl _ _ rfl (w.heap.size) rfl rfl (rowG_other _ hZ7 (by omega)) ?_; intro wF hF hOF)
    )
  all_goals first
    | (refine ⟨rfl, ?_⟩; simp only [r1, Rz.next]; exact .er hP1)
    | (refine ⟨rfl, ?_⟩; simp only [r1, r2, Rz.next]; exact .er hP2)
    | (refine ⟨rfl, ?_⟩; simp only [r1, r2, r3, Rz.next]; exact .er hP3)
    | (refine ⟨rfl, ?_⟩; simp only [r1, r2, r3, r4, Rz.next]; exact .er hP4)
    | (refine ⟨rfl, ?_⟩; simp only [r1, r2, r3, r4, r5, Rz.next]; exact .er hP5)
    | (refine ⟨rfl, ?_⟩; simp only [r1, r2, r3, r4, r5, r6, Rz.next]; exact .er hP6)
    | (refine ⟨rfl, ?_⟩; simp only [r1, r2, r3, r4, r5, r6, r7, Rz.next]; exact .er hP7)
    | skip
  simp only [r1, r2, r3, r4, r5, r6, r7, Rz.next]
  have hsF := hOF.size
  simp only [World.size_setCell] at hsF
  have hOn : Only (fun j => w.heap.size ≤ j) w7 wF := (only_set (Only.refl _ _) _ _ _ (by omega)).trans (hOF.mono (fun j e => by have e2 : j = w.heap.size := e; omega))
  refine bodyPost_ret (res_st rfl _ _ (w.heap.size) _ _ _ _ _ _ _ _ _ rfl hF) rfl ?_
  exact .ok (hP7.old hOn (fun j hj => .inr hj)) (h.newer hI7 hOn) (IsSt.mk (k := 8) (nm := x1) (fr := x3) (ex := [x4, x5]) (ar := []) (bd := x7) (el := []) (by omega) (by simp) (by simp) hL7 (by simp) (kid_two (rowG_only (rowG_other _ hK7 (by omega)) hOF (by omega)) ⟨by omega, by omega⟩ (((hE4_7.only (os1 (or1 (w1.heap.size) _) 7 (.slice mk7 x7.length cap7)) (fun b hb e => by have := hb.1; have := hb.2; simp at *; omega)).only hOF (fun b hb e => by have := hb.1; have := hb.2; simp at *; omega)).mono (fun b hb => ⟨by have := hb.1; have := hb.2; simp at *; omega, by have := hb.1; have := hb.2; simp at *; omega⟩)) (((hE5_7.only (os1 (or1 (w1.heap.size) _) 7 (.slice mk7 x7.length cap7)) (fun b hb e => by have := hb.1; have := hb.2; simp at *; omega)).only hOF (fun b hb e => by have := hb.1; have := hb.2; simp at *; omega)).mono (fun b hb => ⟨by have := hb.1; have := hb.2; simp at *; omega, by have := hb.1; have := hb.2; simp at *; omega⟩))) .nil (((hE7.only (os1 (or1 (w1.heap.size) _) 7 (.slice mk7 x7.length cap7)) (fun b hb e => by have := hb.1; have := hb.2; simp at *; omega)).only hOF (fun b hb e => by have := hb.1; have := hb.2; simp at *; omega)).mono (fun b hb => ⟨by have := hb.1; have := hb.2; simp at *; omega, by have := hb.1; have := hb.2; simp at *; omega⟩)) .nil)

end Go.Proofs.YtfpoflddnlbpjaaGreatDoor

/- Contracts of the reader of programs: if, view, edit. -/
namespace Go.Proofs.YtfpoflddnlbpjaaGreatDoor
open Go.ChangeShapes Go.WideShapes Go.ChangeAt Go.RowKit
set_option linter.unusedVariables false

set_option maxRecDepth 100000 in
set_option maxHeartbeats 8000000 in
theorem view_any {w : World} {rb mb : Nat} {v : Value} {T : List (Tk × Int)} {p d n : Nat} (h : IsRs w rb mb v T p d n) {blk : Nat → Nat → Rz (List St)} (hK : BlkC rb mb v T d blk) :
    Calls Tryz.prog 102 #[.pointer (some ⟨rb, 0, none⟩)] w (RP VS w rb mb v T d (lenR (bareZ T) blk false p n)) := by
  have hrl := h.rl
  go_enter Tryz.func102, Tryz.ntmps102
  go_wp2_with (first
    | (go_at_call 139; ((with_reducible refine (lent_any (h.newer h (only_alloc (Only.refl _ _) _)) hK false).mono ?_); (rintro e w1 ⟨hO1, hR1⟩); (have hP1 : Only (fun j => j = rb) w w1 := ((Only.refl _ _).old (only_alloc (Only.refl _ _) _) (fun j hj => .inr hj)).trans hO1); (have hs1 := hO1.size); (simp only [World.size_alloc] at hs1); (have hZ1 : rowG #[.int .u8 0, .string ⟨#[]⟩, .string ⟨#[]⟩, .bool false, .bool false, .slice none 0 0, .slice none 0 0, .slice none 0 0, .slice none 0 0] w1 (w.heap.size) := rowG_only (rowG_at #[.int .u8 0, .string ⟨#[]⟩, .string ⟨#[]⟩, .bool false, .bool false, .slice none 0 0, .slice none 0 0, .slice none 0 0, .slice none 0 0] 44 w (w.heap.size) (by simp)) hO1 (by omega)); (rcases r1 : lenR (bareZ T) blk false p n with ⟨c1, q1⟩ | ⟨x1, q1, m1⟩) <;> (rw [r1] at hR1; first | (unfold Flt at hR1; subst hR1) | (obtain ⟨hI1, z1, rfl, hV1⟩ := hR1; (obtain ⟨K1, rfl, -⟩ := st_form hV1)))))
    | (with_reducible refine st9 rfl _ _ rfl (w.heap.size) rfl rfl hZ1 ?_; intro wF hF hOF)
    )
  all_goals first
    | (refine ⟨rfl, ?_⟩; exact .er hP1)
    | skip
  have hsF := hOF.size
  have hOn : Only (fun j => w.heap.size ≤ j) w1 wF := (Only.refl _ _).trans (hOF.mono (fun j e => by have e2 : j = w.heap.size := e; omega))
  refine bodyPost_ret (res_st rfl _ _ (w.heap.size) _ _ _ _ _ _ _ _ _ rfl hF) rfl ?_
  rw [r1]
  exact .ok (hP1.old hOn (fun j hj => .inr hj)) (h.newer hI1 hOn) (show VS w wF (.agg #[.int .u8 (K1.k : Int), .string (str K1.nm), .string (str K1.fr), .bool K1.sec, .bool K1.mu, .slice K1.mx K1.nx K1.cx, .slice K1.ma K1.na K1.ca, .slice K1.mb K1.nb K1.cb, .slice K1.ml K1.nl K1.cl]) x1 from ((hV1.only hOF (fun b hb e => by have := hb.1; have := hb.2; simp at *; omega)).mono (fun b hb => ⟨by have := hb.1; have := hb.2; simp at *; omega, by have := hb.1; have := hb.2; simp at *; omega⟩)))

set_option maxRecDepth 100000 in
set_option maxHeartbeats 8000000 in
theorem edit_any {w : World} {rb mb : Nat} {v : Value} {T : List (Tk × Int)} {p d n : Nat} (h : IsRs w rb mb v T p d n) {blk : Nat → Nat → Rz (List St)} (hK : BlkC rb mb v T d blk) :
    Calls Tryz.prog 103 #[.pointer (some ⟨rb, 0, none⟩)] w (RP VS w rb mb v T d (lenR (bareZ T) blk true p n)) := by
  have hrl := h.rl
  go_enter Tryz.func103, Tryz.ntmps103
  go_wp2_with (first
    | (go_at_call 139; ((with_reducible refine (lent_any (h.newer h (only_alloc (Only.refl _ _) _)) hK true).mono ?_); (rintro e w1 ⟨hO1, hR1⟩); (have hP1 : Only (fun j => j = rb) w w1 := ((Only.refl _ _).old (only_alloc (Only.refl _ _) _) (fun j hj => .inr hj)).trans hO1); (have hs1 := hO1.size); (simp only [World.size_alloc] at hs1); (have hZ1 : rowG #[.int .u8 0, .string ⟨#[]⟩, .string ⟨#[]⟩, .bool false, .bool false, .slice none 0 0, .slice none 0 0, .slice none 0 0, .slice none 0 0] w1 (w.heap.size) := rowG_only (rowG_at #[.int .u8 0, .string ⟨#[]⟩, .string ⟨#[]⟩, .bool false, .bool false, .slice none 0 0, .slice none 0 0, .slice none 0 0, .slice none 0 0] 44 w (w.heap.size) (by simp)) hO1 (by omega)); (rcases r1 : lenR (bareZ T) blk true p n with ⟨c1, q1⟩ | ⟨x1, q1, m1⟩) <;> (rw [r1] at hR1; first | (unfold Flt at hR1; subst hR1) | (obtain ⟨hI1, z1, rfl, hV1⟩ := hR1; (obtain ⟨K1, rfl, -⟩ := st_form hV1)))))
    | (with_reducible refine st9 rfl _ _ rfl (w.heap.size) rfl rfl hZ1 ?_; intro wF hF hOF)
    )
  all_goals first
    | (refine ⟨rfl, ?_⟩; exact .er hP1)
    | skip
  have hsF := hOF.size
  have hOn : Only (fun j => w.heap.size ≤ j) w1 wF := (Only.refl _ _).trans (hOF.mono (fun j e => by have e2 : j = w.heap.size := e; omega))
  refine bodyPost_ret (res_st rfl _ _ (w.heap.size) _ _ _ _ _ _ _ _ _ rfl hF) rfl ?_
  rw [r1]
  exact .ok (hP1.old hOn (fun j hj => .inr hj)) (h.newer hI1 hOn) (show VS w wF (.agg #[.int .u8 (K1.k : Int), .string (str K1.nm), .string (str K1.fr), .bool K1.sec, .bool K1.mu, .slice K1.mx K1.nx K1.cx, .slice K1.ma K1.na K1.ca, .slice K1.mb K1.nb K1.cb, .slice K1.ml K1.nl K1.cl]) x1 from ((hV1.only hOF (fun b hb e => by have := hb.1; have := hb.2; simp at *; omega)).mono (fun b hb => ⟨by have := hb.1; have := hb.2; simp at *; omega, by have := hb.1; have := hb.2; simp at *; omega⟩)))

set_option maxRecDepth 100000 in
set_option maxHeartbeats 8000000 in
theorem branch_any {w : World} {rb mb : Nat} {v : Value} {T : List (Tk × Int)} {p d n : Nat} (h : IsRs w rb mb v T p d n) {blk : Nat → Nat → Rz (List St)} (hK : BlkC rb mb v T d blk) :
    Calls Tryz.prog 99 #[.pointer (some ⟨rb, 0, none⟩)] w (RP VS w rb mb v T d (ifR (bareZ T) blk p n)) := by
  have hrl := h.rl
  unfold BlkC at hK
  have hHt : ∀ {W : World} {q m : Nat}, txt (bareZ T) q = wElse → IsRs W rb mb v T q d m → Calls Tryz.prog 133 #[.pointer (some ⟨rb, 0, none⟩), .string ⟨#[101, 108, 115, 101]⟩] W fun e w' => e = .returned (.bool true) ∧ Only (fun j => j = rb) W w' ∧ IsRs w' rb mb v T (q + 1) d m := fun hc h => by have := has_any h wElse (by decide); rw [isP_t hc, beP_t hc] at this; exact this
  have hHf : ∀ {W : World} {q m : Nat}, ¬ txt (bareZ T) q = wElse → IsRs W rb mb v T q d m → Calls Tryz.prog 133 #[.pointer (some ⟨rb, 0, none⟩), .string ⟨#[101, 108, 115, 101]⟩] W fun e w' => e = .returned (.bool false) ∧ Only (fun j => j = rb) W w' ∧ IsRs w' rb mb v T q d m := fun hc h => by have := has_any h wElse (by decide); rw [isP_f hc, beP_f hc] at this; exact this
  unfold ifR
  go_enter Tryz.func99, Tryz.ntmps99
  go_wp2_with (first
    | (go_at_call 137; ((with_reducible refine (expr_any (h.newer h (only_alloc (Only.refl _ _) _))).mono ?_); (rintro e w1 ⟨hO1, hR1⟩); (have hP1 : Only (fun j => j = rb) w w1 := ((Only.refl _ _).old (only_alloc (Only.refl _ _) _) (fun j hj => .inr hj)).trans hO1); (have hs1 := hO1.size); (simp only [World.size_alloc] at hs1); (have hZ1 : rowG #[.int .u8 0, .string ⟨#[]⟩, .string ⟨#[]⟩, .bool false, .bool false, .slice none 0 0, .slice none 0 0, .slice none 0 0, .slice none 0 0] w1 (w.heap.size) := rowG_only (rowG_at #[.int .u8 0, .string ⟨#[]⟩, .string ⟨#[]⟩, .bool false, .bool false, .slice none 0 0, .slice none 0 0, .slice none 0 0, .slice none 0 0] 44 w (w.heap.size) (by simp)) hO1 (by omega)); (rcases r1 : expR (bareZ T) p n with ⟨c1, q1⟩ | ⟨x1, q1, m1⟩) <;> (rw [r1] at hR1; first | (unfold Flt at hR1; subst hR1) | (obtain ⟨hI1, z1, rfl, hV1⟩ := hR1; (obtain ⟨k1, n1, s1, o1, mk1, mm1, cap1, rfl⟩ := vx_form hV1)))))
    | (go_at_call 138; ((with_reducible refine (hK (h.newer hI1 (only_alloc (Only.refl _ _) _))).mono ?_); (rintro e w2 ⟨hO2, hR2⟩); (have hP2 : Only (fun j => j = rb) w w2 := (hP1.old (only_alloc (Only.refl _ _) _) (fun j hj => .inr hj)).trans hO2); (have hs2 := hO2.size); (simp only [World.size_alloc] at hs2); (have hZ2 : rowG #[.int .u8 0, .string ⟨#[]⟩, .string ⟨#[]⟩, .bool false, .bool false, .slice none 0 0, .slice none 0 0, .slice none 0 0, .slice none 0 0] w2 (w.heap.size) := rowG_only (rowG_alloc hZ1 _) hO2 (by omega)); (have hK2 : rowG #[.int .u8 k1, .int .u64 n1, .string s1, .int .u8 o1, .slice mk1 mm1 cap1] w2 (w1.heap.size) := rowG_only (rowG_at #[.int .u8 k1, .int .u64 n1, .string s1, .int .u8 o1, .slice mk1 mm1 cap1] 52 w1 (w1.heap.size) (by simp)) hO2 (by omega)); (have hE1_2 := ((hV1.of (aB (Below.refl _ _) _))).only hO2 (fun b hb e => by have := hb.1; have := hb.2; simp at *; omega)); (rcases r2 : blk q1 m1 with ⟨c2, q2⟩ | ⟨x2, q2, m2⟩) <;> (rw [r2] at hR2; first | (unfold Flt at hR2; subst hR2) | (obtain ⟨hI2, z2, rfl, hV2⟩ := hR2; (obtain ⟨mk2, cap2, rfl, hL2, hE2⟩ := hV2)))))
    | (go_at_call 133; ((rcases Classical.em (txt (bareZ T) q2 = wElse) with hc3 | hc3) <;> ((first | (with_reducible refine (hHt hc3 (h.newer hI2 (only_alloc (Only.refl _ _) _))).mono ?_) | (with_reducible refine (hHf hc3 (h.newer hI2 (only_alloc (Only.refl _ _) _))).mono ?_)); (rintro e w3 ⟨rfl, hO3, hI3⟩); (have hP3 : Only (fun j => j = rb) w w3 := (hP2.old (only_alloc (Only.refl _ _) _) (fun j hj => .inr hj)).trans hO3); (have hs3 := hO3.size); (simp only [World.size_alloc] at hs3); (have hZ3 : rowG #[.int .u8 0, .string ⟨#[]⟩, .string ⟨#[]⟩, .bool false, .bool false, .slice none 0 0, .slice none 0 0, .slice none 0 0, .slice none 0 0] w3 (w.heap.size) := rowG_only (rowG_alloc hZ2 _) hO3 (by omega)); (have hK3 : rowG #[.int .u8 k1, .int .u64 n1, .string s1, .int .u8 o1, .slice mk1 mm1 cap1] w3 (w1.heap.size) := rowG_only (rowG_alloc hK2 _) hO3 (by omega)); (have hS3 : rowG #[.int .u8 5, .string ⟨#[]⟩, .string ⟨#[]⟩, .bool false, .bool false, .slice (some ⟨w1.heap.size, 0, none⟩) 1 1, .slice none 0 0, .slice mk2 x2.length cap2, .slice none 0 0] w3 (w2.heap.size) := rowG_only (rowG_at #[.int .u8 5, .string ⟨#[]⟩, .string ⟨#[]⟩, .bool false, .bool false, .slice (some ⟨w1.heap.size, 0, none⟩) 1 1, .slice none 0 0, .slice mk2 x2.length cap2, .slice none 0 0] 44 w2 (w2.heap.size) (by simp)) hO3 (by omega)); (have hE1_3 := ((hE1_2.of (aB (Below.refl _ _) _))).only hO3 (fun b hb e => by have := hb.1; have := hb.2; simp at *; omega)); (have hE2_3 := ((hE2.of (aB (Below.refl _ _) _))).only hO3 (fun b hb e => by have := hb.1; have := hb.2; simp at *; omega)))))
    | (go_at_call 138; ((with_reducible refine (hK hI3).mono ?_); (rintro e w4 ⟨hO4, hR4⟩); (have hP4 : Only (fun j => j = rb) w w4 := hP3.trans hO4); (have hs4 := hO4.size); (have hZ4 : rowG #[.int .u8 0, .string ⟨#[]⟩, .string ⟨#[]⟩, .bool false, .bool false, .slice none 0 0, .slice none 0 0, .slice none 0 0, .slice none 0 0] w4 (w.heap.size) := rowG_only hZ3 hO4 (by omega)); (have hK4 : rowG #[.int .u8 k1, .int .u64 n1, .string s1, .int .u8 o1, .slice mk1 mm1 cap1] w4 (w1.heap.size) := rowG_only hK3 hO4 (by omega)); (have hS4 : rowG #[.int .u8 5, .string ⟨#[]⟩, .string ⟨#[]⟩, .bool false, .bool false, .slice (some ⟨w1.heap.size, 0, none⟩) 1 1, .slice none 0 0, .slice mk2 x2.length cap2, .slice none 0 0] w4 (w2.heap.size) := rowG_only hS3 hO4 (by omega)); (have hE1_4 := (hE1_3).only hO4 (fun b hb e => by have := hb.1; have := hb.2; simp at *; omega)); (have hE2_4 := (hE2_3).only hO4 (fun b hb e => by have := hb.1; have := hb.2; simp at *; omega)); (rcases r4 : blk (q2 + 1) m2 with ⟨c4, q4⟩ | ⟨x4, q4, m4⟩) <;> (rw [r4] at hR4; first | (unfold Flt at hR4; subst hR4) | (obtain ⟨hI4, z4, rfl, hV4⟩ := hR4; (obtain ⟨mk4, cap4, rfl, hL4, hE4⟩ := hV4); (have fS8_4 := hS4.1 8 (by simp)); (have ffS_4 := hS4.2.1); (have flS_4 := hS4.2.2)))))
    | (with_reducible refine ld9 rfl _ rfl (w2.heap.size) rfl (show rowG #[.int .u8 5, .string ⟨#[]⟩, .string ⟨#[]⟩, .bool false, .bool false, .slice (some ⟨w1.heap.size, 0, none⟩) 1 1, .slice none 0 0, .slice mk2 x2.length cap2, .slice mk4 x4.length cap4] _ _ from (r9s8 (.slice mk4 x4.length cap4) hS4)) ?_)
    | (with_reducible refine st9 rfl _ _ rfl (w.heap.size) rfl rfl (rowG_other _ hZ4 (by omega)) ?_; intro wF hF hOF)
    | (with_reducible refine ld9 rfl _ rfl (w2.heap.size) rfl (show rowG #[.int .u8 5, .string ⟨#[]⟩, .string ⟨#[]⟩, .bool false, .bool false, .slice (some ⟨w1.heap.size, 0, none⟩) 1 1, .slice none 0 0, .slice mk2 x2.length cap2, .slice none 0 0] _ _ from hS3) ?_)
    | (with_reducible refine st9 rfl _ _ rfl (w.heap.size) rfl rfl hZ3 ?_; intro wF hF hOF)
    )
  all_goals first
    | (refine ⟨rfl, ?_⟩; simp only [r1, Rz.next]; exact .er hP1)
    | (refine ⟨rfl, ?_⟩; simp only [r1, r2, Rz.next]; exact .er hP2)
    | (refine ⟨rfl, ?_⟩; simp only [r1, r2, Rz.next]; rw [if_pos hc3]; simp only [r4]; exact .er hP4)
    | (simp only [r1, r2, Rz.next]; rw [if_pos hc3]; simp only [r4]
       have hsF := hOF.size
       simp only [World.size_setCell] at hsF
       have hOn : Only (fun j => w.heap.size ≤ j) w4 wF := (only_set (Only.refl _ _) _ _ _ (by omega)).trans (hOF.mono (fun j e => by have e2 : j = w.heap.size := e; omega))
       refine bodyPost_ret (res_st rfl _ _ (w.heap.size) _ _ _ _ _ _ _ _ _ rfl hF) rfl ?_
       exact .ok (hP4.old hOn (fun j hj => .inr hj)) (h.newer hI4 hOn) (IsSt.mk (k := 5) (nm := []) (fr := []) (ex := [x1]) (ar := []) (bd := x2) (el := x4) (by omega) (by simp) (by simp) hL2 hL4 (kid_one (rowG_only (rowG_other _ hK4 (by omega)) hOF (by omega)) ⟨by omega, by omega⟩ (((hE1_4.only (os1 (or1 (w2.heap.size) _) 8 (.slice mk4 x4.length cap4)) (fun b hb e => by have := hb.1; have := hb.2; simp at *; omega)).only hOF (fun b hb e => by have := hb.1; have := hb.2; simp at *; omega)).mono (fun b hb => ⟨by have := hb.1; have := hb.2; simp at *; omega, by have := hb.1; have := hb.2; simp at *; omega⟩))) .nil (((hE2_4.only (os1 (or1 (w2.heap.size) _) 8 (.slice mk4 x4.length cap4)) (fun b hb e => by have := hb.1; have := hb.2; simp at *; omega)).only hOF (fun b hb e => by have := hb.1; have := hb.2; simp at *; omega)).mono (fun b hb => ⟨by have := hb.1; have := hb.2; simp at *; omega, by have := hb.1; have := hb.2; simp at *; omega⟩)) (((hE4.only (os1 (or1 (w2.heap.size) _) 8 (.slice mk4 x4.length cap4)) (fun b hb e => by have := hb.1; have := hb.2; simp at *; omega)).only hOF (fun b hb e => by have := hb.1; have := hb.2; simp at *; omega)).mono (fun b hb => ⟨by have := hb.1; have := hb.2; simp at *; omega, by have := hb.1; have := hb.2; simp at *; omega⟩))))
    | (simp only [r1, r2, Rz.next]; rw [if_neg hc3]
       have hsF := hOF.size
       have hOn : Only (fun j => w.heap.size ≤ j) w3 wF := (Only.refl _ _).trans (hOF.mono (fun j e => by have e2 : j = w.heap.size := e; omega))
       refine bodyPost_ret (res_st rfl _ _ (w.heap.size) _ _ _ _ _ _ _ _ _ rfl hF) rfl ?_
       exact .ok (hP3.old hOn (fun j hj => .inr hj)) (h.newer hI3 hOn) (IsSt.mk (k := 5) (nm := []) (fr := []) (ex := [x1]) (ar := []) (bd := x2) (el := []) (by omega) (by simp) (by simp) hL2 (by simp) (kid_one (rowG_only hK3 hOF (by omega)) ⟨by omega, by omega⟩ ((hE1_3.only hOF (fun b hb e => by have := hb.1; have := hb.2; simp at *; omega)).mono (fun b hb => ⟨by have := hb.1; have := hb.2; simp at *; omega, by have := hb.1; have := hb.2; simp at *; omega⟩))) .nil ((hE2_3.only hOF (fun b hb e => by have := hb.1; have := hb.2; simp at *; omega)).mono (fun b hb => ⟨by have := hb.1; have := hb.2; simp at *; omega, by have := hb.1; have := hb.2; simp at *; omega⟩)) .nil))

end Go.Proofs.YtfpoflddnlbpjaaGreatDoor
