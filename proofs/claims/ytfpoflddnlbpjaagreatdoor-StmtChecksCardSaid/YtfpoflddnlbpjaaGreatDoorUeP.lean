/- Contracts of the document's function and May. -/
import Derived.Test.YtfpoflddnlbpjaaGreatDoorMxP
import Derived.Test.YtfpoflddnlbpjaaGreatDoorMsP
import Derived.Test.YtfpoflddnlbpjaaGreatDoorMrP
namespace Go.Proofs.YtfpoflddnlbpjaaGreatDoor
open Go.ChangeShapes Go.WideShapes Go.ChangeAt Go.RowKit
set_option linter.unusedVariables false
def Fd.sb (B : Nat) (f : Fd) : Prop := f.nm.length ≤ B ∧ (∀ p ∈ f.ps, p.nm.length ≤ B) ∧ sbS B f.bd ∧ sbL B f.rt
set_option maxRecDepth 100000 in
set_option maxHeartbeats 8000000 in
theorem rfn_any (G : Nat → Prop) (nm : List UInt8) (ps : List Pm) (sec : Bool) (rt : List Xp) (mp mb mr : Option Addr) (np cp nb cb nr cr : Nat) (w : World) (hnp : np = ps.length) (hnr : nr = rt.length) (hP : PmsAt G w ps mp) (hR : KidsAt G w rt mr) (hpl : np ≤ 140737488355328) (hrl : nr ≤ 140737488355328)
    (hs1 : nm.length ≤ 140737488355328) (hs2 : ∀ p ∈ ps, p.nm.length ≤ 140737488355328) (hs3 : sbL 140737488355328 rt) :
    Calls Tryz.prog 28 #[.agg #[.string (str nm), .slice mp np cp, .slice mb nb cb, .bool sec, .slice mr nr cr]] w fun r w' => r = .returned (.bool (nmdB nm && psB ps && rtB sec rt)) ∧ Below w.heap.size w w' := by
  have hps : psB ps = (decide (np ≤ 8) && ps.all pmB) := by rw [hnp]; rfl
  have hrt : rtB sec rt = if nr = 0 then !sec else decide (nr = 1) && rt.all (mayB 40) := by rw [hnr]; rfl
  have hE := fun x (hx : Below w.heap.size w x) => rex_any G rt hs3 mr cr x (hR.of hx) (by rw [← hnr]; exact hrl) (nr : Int)
  rw [← hnr] at hE
  have hE' : ∀ x, Below w.heap.size w x → Calls Tryz.prog 57 #[.slice mr nr cr, .int .i64 (nr : Int)] x fun r w' => r = .returned (.bool (rt.all (mayB 40))) ∧ Below x.heap.size x w' := fun x hx => by
    have := hE x hx
    rw [beq_self_eq_true, Bool.and_true] at this
    exact this
  have hn0 : nr = 0 → rt.all (mayB 40) = true := fun h => by
    have : rt = [] := List.length_eq_zero_iff.1 (by omega)
    rw [this]; rfl
  rw [hps, hrt]
  have hNm := fun x => rnmd_str nm hs1 x
  have HP := Lib.hid hP
  have HNP := Lib.hid hnp
  have HS2 := Lib.hid hs2
  clear hE hps hrt hP hR hnp hnr hs2 hs3
  generalize rt.all (mayB 40) = P at *
  generalize nmdB nm = c1 at *
  obtain ⟨W, hW⟩ : ∃ W, w.alloc (.cells #[.string (str nm), .slice mp np cp, .slice mb nb cb, .bool sec, .slice mr nr cr] 47) = W := ⟨_, rfl⟩
  have hBW : Below w.heap.size w W := by rw [← hW]; exact aB (Below.refl _ _) _
  have hr : rowG #[.string (str nm), .slice mp np cp, .slice mb nb cb, .bool sec, .slice mr nr cr] W w.heap.size := by rw [← hW]; exact rowG_at _ _ _ _ rfl
  obtain ⟨z0, z1, z2, z3, z4, zf, zl⟩ := fiveF hr
  have hun : undef = Value.tuple #[] := rfl
  cases c1
  · simp only [Bool.false_and]
    go_enter Tryz.func28, Tryz.ntmps28
    go_wp2_with (go_at_call 56; ((with_reducible refine (hNm _).mono ?_); (rintro e w1 ⟨rfl, hb1⟩)))
    go_ret
    exact ⟨rfl, tr hBW hb1⟩
  by_cases h8 : np ≤ 8
  rotate_left
  · have h8i : (8 : Int) < (np : Int) := by omega
    rw [decide_eq_false h8]
    simp only [Bool.false_and, Bool.and_false]
    have H8 := Lib.hid h8
    clear h8
    go_enter Tryz.func28, Tryz.ntmps28
    go_wp2_with (go_at_call 56; ((with_reducible refine (hNm _).mono ?_); (rintro e w1 ⟨rfl, hb1⟩); (have hr1 := rowG_b hr hb1); (clear z0 z1 z2 z3 z4 zf zl); (obtain ⟨z0, z1, z2, z3, z4, zf, zl⟩ := fiveF hr1)))
    go_ret
    exact ⟨rfl, tr hBW hb1⟩
  have h8i : ¬ (8 : Int) < (np : Int) := by omega
  rw [decide_eq_true h8, Bool.true_and, Bool.true_and]
  have H8 := Lib.hid h8
  clear h8
  by_cases h1 : nr ≤ 1
  rotate_left
  · have h1i : (1 : Int) < (nr : Int) := by omega
    have hf : ((ps.all pmB) && (if nr = 0 then !sec else decide (nr = 1) && P)) = false := by rw [if_neg (by omega), decide_eq_false (by omega)]; simp
    rw [hf]
    clear hf h1
    go_enter Tryz.func28, Tryz.ntmps28
    go_wp2_with (go_at_call 56; ((with_reducible refine (hNm _).mono ?_); (rintro e w1 ⟨rfl, hb1⟩); (have hr1 := rowG_b hr hb1); (clear z0 z1 z2 z3 z4 zf zl); (obtain ⟨z0, z1, z2, z3, z4, zf, zl⟩ := fiveF hr1)))
    go_ret
    exact ⟨rfl, tr hBW hb1⟩
  have h1i : ¬ (1 : Int) < (nr : Int) := by omega
  cases P
  · have hf : ((ps.all pmB) && (if nr = 0 then !sec else decide (nr = 1) && false)) = false := by
      by_cases h0 : nr = 0
      · have := hn0 h0; cases this
      · rw [if_neg h0]; simp
    rw [hf]
    clear hf h1 hn0
    go_enter Tryz.func28, Tryz.ntmps28
    go_wp2_with (first
      | (go_at_call 56; ((with_reducible refine (hNm _).mono ?_); (rintro e w1 ⟨rfl, hb1⟩); (have hr1 := rowG_b hr hb1); (clear z0 z1 z2 z3 z4 zf zl); (obtain ⟨z0, z1, z2, z3, z4, zf, zl⟩ := fiveF hr1)))
      | (go_at_call 57; ((with_reducible refine (hE' _ (tr hBW hb1)).mono ?_); (rintro e w2 ⟨rfl, hb2⟩))))
    go_ret
    exact ⟨rfl, tr (tr hBW hb1) hb2⟩
  have hb0 : (if nr = 0 then !sec else decide (nr = 1) && true) = !(decide (nr = 0) && sec) := by
    by_cases h0 : nr = 0
    · rw [if_pos h0, decide_eq_true h0, Bool.true_and]
    · rw [if_neg h0, decide_eq_false h0, decide_eq_true (by omega)]; rfl
  rw [hb0]
  clear hb0 hn0
  by_cases h0 : nr = 0 ∧ sec = true
  · obtain ⟨h0, rfl⟩ := h0
    have h0i : ((nr : Int) == 0) = true := by simp only [beq_iff_eq]; omega
    rw [decide_eq_true h0]
    simp only [Bool.and_self, Bool.not_true, Bool.and_false]
    have H0 := Lib.hid h0
    clear h0 h1
    go_enter Tryz.func28, Tryz.ntmps28
    go_wp2_with (first
      | (go_at_call 56; ((with_reducible refine (hNm _).mono ?_); (rintro e w1 ⟨rfl, hb1⟩); (have hr1 := rowG_b hr hb1); (clear z0 z1 z2 z3 z4 zf zl); (obtain ⟨z0, z1, z2, z3, z4, zf, zl⟩ := fiveF hr1)))
      | (go_at_call 57; ((with_reducible refine (hE' _ (tr hBW hb1)).mono ?_); (rintro e w2 ⟨rfl, hb2⟩); (have hr2 := rowG_b hr1 hb2); (clear z0 z1 z2 z3 z4 zf zl); (obtain ⟨z0, z1, z2, z3, z4, zf, zl⟩ := fiveF hr2))))
    go_ret
    exact ⟨rfl, tr (tr hBW hb1) hb2⟩
  have hq : (decide (nr = 0) && sec) = false := by
    by_cases h2 : nr = 0
    · cases sec
      · simp
      · exact absurd ⟨h2, rfl⟩ h0
    · simp [h2]
  rw [hq, Bool.not_false, Bool.and_true]
  clear h0
  obtain ⟨q0, hq0⟩ : ∃ q0 : Bool, ((nr : Int) == 0) = q0 := ⟨_, rfl⟩
  have hqs : q0 = true → sec = false := fun h => by
    subst hq0
    have h2 : nr = 0 := by simp only [beq_iff_eq] at h; omega
    rw [decide_eq_true h2] at hq
    simpa using hq
  clear hq h1
  go_enter Tryz.func28, Tryz.ntmps28
  cases q0
  all_goals
    first
    | (replace hqs := hqs rfl
       subst hqs)
    | clear hqs
    go_wp2_with (first
      | (go_at_call 56; ((with_reducible refine (hNm _).mono ?_); (rintro e w1 ⟨rfl, hb1⟩); (have hr1 := rowG_b hr hb1); (clear z0 z1 z2 z3 z4 zf zl); (obtain ⟨z0, z1, z2, z3, z4, zf, zl⟩ := fiveF hr1)))
      | (go_at_call 57; ((with_reducible refine (hE' _ (tr hBW hb1)).mono ?_); (rintro e w2 ⟨rfl, hb2⟩); (have hr2 := rowG_b hr1 hb2); (clear z0 z1 z2 z3 z4 zf zl hun); (obtain ⟨z0, z1, z2, z3, z4, zf, zl⟩ := fiveF hr2))))
    have hB2 := tr (tr hBW hb1) hb2
    clear z0 z1 z2 z3 z4 zf zl hr hr1 hNm hE'
    go_loopw [3] (fun i wr => ∃ k : Nat, k ≤ np ∧ i = .int .i64 (k : Int) ∧ Hid ((ps.take k).all pmB = true) ∧ Below w2.heap.size w2 wr) (fun i _ => np - (intOf i).toNat)
    case atStart => exact ⟨0, Nat.zero_le _, rfl, Lib.hid (by simp), Below.refl _ _⟩
    case round =>
      obtain ⟨j, hj, rfl, hall, hBr⟩ := hrel
      have hrr := rowG_b hr2 hBr
      obtain ⟨z0, z1, z2, z3, z4, zf, zl⟩ := fiveF hrr
      have hB0 := tr hB2 hBr
      by_cases hlt : j < np
      · have hlt' : j < ps.length := by rw [← HNP.out]; exact hlt
        obtain ⟨b, off, rfl, hG, c0, c1, c2, c3⟩ := HP.out j hlt'
        have hbl' : b < wr.heap.size := Nat.lt_of_lt_of_le (World.block_lt_of_cell? w _ c0) hB0.size
        have q0 := stay hB0 c0
        have q1 := stay hB0 c1
        have q2 := stay hB0 c2
        have q3 := stay hB0 c3
        have hN1 := fun x => rnmd_str ps[j].nm (HS2.out _ (List.getElem_mem hlt')) x
        have hA0 := fun hp => Lib.hid (pall_no (p := pmB) hlt' hp)
        have hA1 := fun hp => Lib.hid (pall_take (p := pmB) hlt' hall.out hp)
        have e : pmB ps[j] = (nmdB ps[j].nm && (!ps[j].mu || ps[j].buf)) := rfl
        rw [e] at hA0 hA1
        clear c0 c1 c2 c3 e hall
        generalize ps[j].mu = mu at *
        generalize ps[j].buf = buf at *
        generalize ps[j].sec = sc at *
        generalize nmdB ps[j].nm = nb1 at *
        generalize ps[j].nm = pn at *
        have hun : undef = Value.tuple #[] := rfl
        cases nb1
        · replace hA0 := hA0 rfl
          clear hA1
          go_wp2_with (go_at_call 56; ((with_reducible refine (hN1 _).mono ?_); (rintro e w3 ⟨rfl, hb3⟩)))
          go_ret
          exact ⟨by rw [hA0.out]; rfl, tr hB0 hb3⟩
        · cases mu
          · replace hA1 := hA1 rfl
            clear hA0
            go_wp2_with (go_at_call 56; ((with_reducible refine (hN1 _).mono ?_); (rintro e w3 ⟨rfl, hb3⟩); (have hr3 := rowG_b hrr hb3); (have p3 := stay hb3 q3); (have pl := Nat.lt_of_lt_of_le hbl' hb3.size); (clear z0 z1 z2 z3 z4 zf zl); (obtain ⟨z0, z1, z2, z3, z4, zf, zl⟩ := fiveF hr3)))
            go_roundw
            case rel => first | exact ⟨j + 1, by omega, by go_num, hA1, tr hBr hb3⟩ | ((repeat apply Exists.intro); exact ⟨⟨j + 1, by omega, by go_num, hA1, tr hBr hb3⟩, rfl⟩)
            case measure => simp [intOf]; omega
          · cases buf
            · replace hA0 := hA0 rfl
              clear hA1
              go_wp2_with (go_at_call 56; ((with_reducible refine (hN1 _).mono ?_); (rintro e w3 ⟨rfl, hb3⟩); (have hr3 := rowG_b hrr hb3); (have p3 := stay hb3 q3); (have p1 := stay hb3 q1); (have pl := Nat.lt_of_lt_of_le hbl' hb3.size); (clear z0 z1 z2 z3 z4 zf zl); (obtain ⟨z0, z1, z2, z3, z4, zf, zl⟩ := fiveF hr3)))
              go_ret
              exact ⟨by rw [hA0.out]; rfl, tr hB0 hb3⟩
            · replace hA1 := hA1 rfl
              clear hA0
              go_wp2_with (go_at_call 56; ((with_reducible refine (hN1 _).mono ?_); (rintro e w3 ⟨rfl, hb3⟩); (have hr3 := rowG_b hrr hb3); (have p3 := stay hb3 q3); (have p1 := stay hb3 q1); (have pl := Nat.lt_of_lt_of_le hbl' hb3.size); (clear z0 z1 z2 z3 z4 zf zl); (obtain ⟨z0, z1, z2, z3, z4, zf, zl⟩ := fiveF hr3)))
              go_roundw
              case rel => first | exact ⟨j + 1, by omega, by go_num, hA1, tr hBr hb3⟩ | ((repeat apply Exists.intro); exact ⟨⟨j + 1, by omega, by go_num, hA1, tr hBr hb3⟩, rfl⟩)
              case measure => simp [intOf]; omega
      · obtain rfl : j = np := by omega
        have hA := Lib.hid hall.out
        go_wp2
        go_ret
        exact ⟨by rw [← hA.out, List.take_of_length_le (by rw [HNP.out]; exact Nat.le_refl _)]; rfl, hB0⟩
end Go.Proofs.YtfpoflddnlbpjaaGreatDoor

/- Contract of the document's May. -/
namespace Go.Proofs.YtfpoflddnlbpjaaGreatDoor
open Go.ChangeShapes Go.WideShapes Go.ChangeAt Go.RowKit
set_option linter.unusedVariables false
theorem pgS_le : ∀ (l : List Fd) (n : Nat), pgS l = some n → n ≤ totS l := by
  intro l
  induction l with
  | nil => intro n h; cases h; exact Nat.zero_le _
  | cons f r ih =>
    intro n hn
    rw [pgS] at hn
    cases h1 : fdS f with
    | none => rw [h1] at hn; cases hn
    | some a =>
      cases h2 : pgS r with
      | none => rw [h1, h2] at hn; cases hn
      | some b =>
        rw [h1, h2] at hn
        simp only [Option.bind_some, Option.map_some, Option.some.injEq] at hn
        subst hn
        rw [totS]
        have := ih _ h2
        unfold fdS at h1
        split at h1
        · have := cnt_le _ _ _ h1; omega
        · cases h1
theorem totS_take (l : List Fd) (k : Nat) : totS (l.take k) ≤ totS l := by
  have e := List.take_append_drop k l
  have h : totS (l.take k ++ l.drop k) = totS l := by rw [e]
  rw [totS_app] at h
  omega
theorem totS_mem {f : Fd} : ∀ {l : List Fd}, f ∈ l → szL f.bd ≤ totS l
  | x :: r, h => by
    rw [totS]
    rcases List.mem_cons.1 h with rfl | h
    · omega
    · have := totS_mem h; omega
set_option maxRecDepth 100000 in
set_option maxHeartbeats 8000000 in
theorem rmy_any (l : List Fd) (hT : totS l ≤ 900) (hsb : ∀ f ∈ l, f.sb 140737488355328) (hl : l.length ≤ 140737488355328) (G : Nat → Prop) (ma : Option Addr) (cap : Nat) (w : World) (hF : FdsAt G w l ma) :
    Calls Tryz.prog 14 #[.agg #[.slice ma l.length cap]] w fun r w' => r = .returned (.bool (pgB l)) ∧ Below w.heap.size w w' := by
  rw [pg_may]
  have hmp : mayP l = (decide (l.length ≤ 16) && match pgS l with | none => false | some n => decide (n ≤ 400)) := rfl
  obtain ⟨R, hR⟩ : ∃ R, R = mayP l := ⟨_, rfl⟩
  rw [← hR]
  have HR := Lib.hid (hR.trans hmp)
  have HF := Lib.hid hF
  have HSB := Lib.hid hsb
  have HT := Lib.hid hT
  obtain ⟨N, hN⟩ : ∃ N, N = l.length := ⟨_, rfl⟩
  rw [← hN] at hl ⊢
  have HN := Lib.hid hN
  clear hF hsb hT hN hR hmp
  obtain ⟨W, hW⟩ : ∃ W, w.alloc (.cells #[.slice ma N cap] 24) = W := ⟨_, rfl⟩
  have hBW : Below w.heap.size w W := by rw [← hW]; exact aB (Below.refl _ _) _
  have hrp : rowG #[.slice ma N cap] W w.heap.size := by rw [← hW]; exact rowG_at _ _ _ _ rfl
  go_enter Tryz.func14, Tryz.ntmps14
  go_wp2
  clear hW
  go_loopw [3, 4, 5] (fun nv i kv wr => ∃ k n : Nat, k ≤ N ∧ nv = .int .i64 (n : Int) ∧ i = .int .i64 (k : Int) ∧ Hid (pgS (l.take k) = some n) ∧ Below W.heap.size W wr) (fun _ i _ _ => N - (intOf i).toNat)
  case atStart => exact ⟨0, 0, Nat.zero_le _, rfl, rfl, Lib.hid rfl, Below.refl _ _⟩
  case round =>
    obtain ⟨k, n, hk, rfl, rfl, hrow, hBr⟩ := hrel
    have hB := tr hBW hBr
    have hrr := rowG_b hrp hBr
    have p0 := hrr.1 0 (by simp)
    have pl := hrr.2.2
    by_cases hlt : k < N
    · have hlt' : k < l.length := by rw [← HN.out]; exact hlt
      obtain ⟨g1, o1, xp, xb, xr, xc, xd, xe, rfl, -, hw1, hP1, hB1, hR1, hp, hb, hr, hr1⟩ := fds_row HF.out k hlt'
      obtain ⟨s1, s2, s3, s4⟩ := HSB.out _ (List.getElem_mem hlt')
      have hsz : szL l[k].bd ≤ 900 := Nat.le_trans (totS_mem (List.getElem_mem hlt')) HT.out
      obtain ⟨q0, q1, q2, q3, q4⟩ := fiveR (range_stay hr1 hB)
      have hw1 : g1 < wr.heap.size := Nat.lt_of_lt_of_le hw1 hB.size
      have hC := cnt_any 40 G l[k].bd xb xd wr (by omega) (hB1.of hB) s3 hsz hb
      rw [show (41 - ((40 : Nat) : Int)) = 1 from rfl] at hC
      have hFn := fun x (hx : Below wr.heap.size wr x) => rfn_any G l[k].nm l[k].ps l[k].sec l[k].rt xp xb xr l[k].ps.length xc l[k].bd.length xd l[k].rt.length xe x rfl rfl ((hP1.of hB).of hx) ((hR1.of hB).of hx) hp hr s1 s2 s4
      have hst := pgS_take hlt' hrow.out
      have hno := fun h => pgS_none hlt' h
      have hfd : fdS l[k] = if (nmdB l[k].nm && psB l[k].ps && rtB l[k].sec l[k].rt) = true then cntR 40 l[k].bd else none := rfl
      have HLE : Hid (∀ m, pgS (l.take (k + 1)) = some m → m ≤ 900) := Lib.hid (fun m hm => Nat.le_trans (Nat.le_trans (pgS_le _ m hm) (totS_take l (k + 1))) HT.out)
      obtain ⟨ca, hca⟩ : ∃ ca, ca = cntR 40 l[k].bd := ⟨_, rfl⟩
      obtain ⟨fb, hfb⟩ : ∃ fb, fb = (nmdB l[k].nm && psB l[k].ps && rtB l[k].sec l[k].rt) := ⟨_, rfl⟩
      rw [← hca] at hC hfd
      rw [← hfb] at hFn hfd
      rw [hfd] at hst hno
      have HST := Lib.hid hst
      have HNO := Lib.hid hno
      clear hP1 hB1 hR1 hr1 s1 s2 s3 s4 hsz hst hno hfd hca hfb hrow hp hr hb
      generalize l[k].nm = nm at *
      generalize l[k].sec = sec at *
      generalize l[k].ps.length = np at *
      generalize l[k].bd.length = nb at *
      generalize l[k].rt.length = nr at *
      cases ca with
      | none =>
        have hRf : R = false := by rw [HR.out, HNO.out (by split <;> rfl)]; simp
        subst hRf
        simp only [optI] at hC
        clear hFn
        go_wp2_with (go_at_call 27; ((with_reducible refine hC.mono ?_); (rintro e w2 ⟨rfl, hb2⟩)))
        go_ret
        exact ⟨rfl, tr hB hb2⟩
      | some a0 =>
        simp only [optI] at hC
        have ha0 : ¬ (a0 : Int) < 0 := by omega
        cases fb
        · have hRf : R = false := by rw [HR.out, HNO.out rfl]; simp
          subst hRf
          go_wp2_with (first
            | (go_at_call 27; ((with_reducible refine hC.mono ?_); (rintro e w2 ⟨rfl, hb2⟩); (have hrr2 := rowG_b hrr hb2); (have p0' := hrr2.1 0 (by simp)); (have pl' := hrr2.2.2); (have r0 := stay hb2 q0); (have r1 := stay hb2 q1); (have r2 := stay hb2 q2); (have r3 := stay hb2 q3); (have r4 := stay hb2 q4); (have hw2 := Nat.lt_of_lt_of_le hw1 hb2.size); (clear q0 q1 q2 q3 q4 p0 pl hw1); (have hF2 := hFn _ hb2)))
            | (go_at_call 28; ((with_reducible refine hF2.mono ?_); (rintro e w3 ⟨rfl, hb3⟩))))
          go_ret
          exact ⟨rfl, tr (tr hB hb2) hb3⟩
        · have hnew : pgS (l.take (k + 1)) = some (n + a0) := by rw [HST.out]; rfl
          have hbd := HLE.out _ hnew
          have HNEW := Lib.hid hnew
          clear hnew
          have hw : IntKind.i64.wrap ((n : Int) + (a0 : Int)) = ((n + a0 : Nat) : Int) := by rw [IntKind.wrap_i64]; omega
          go_wp2_with (first
            | (go_at_call 27; ((with_reducible refine hC.mono ?_); (rintro e w2 ⟨rfl, hb2⟩); (have hrr2 := rowG_b hrr hb2); (have p0' := hrr2.1 0 (by simp)); (have pl' := hrr2.2.2); (have r0 := stay hb2 q0); (have r1 := stay hb2 q1); (have r2 := stay hb2 q2); (have r3 := stay hb2 q3); (have r4 := stay hb2 q4); (have hw2 := Nat.lt_of_lt_of_le hw1 hb2.size); (clear q0 q1 q2 q3 q4 p0 pl hw1); (have hF2 := hFn _ hb2)))
            | (go_at_call 28; ((with_reducible refine hF2.mono ?_); (rintro e w3 ⟨rfl, hb3⟩))))
          go_roundw
          case rel => first | exact ⟨k + 1, n + a0, by omega, rfl, by go_num, HNEW, tr (tr hBr hb2) hb3⟩ | ((repeat apply Exists.intro); exact ⟨⟨k + 1, n + a0, by omega, rfl, by go_num, HNEW, tr (tr hBr hb2) hb3⟩, rfl⟩)
          case measure => simp [intOf]; omega
    · obtain rfl : k = N := by omega
      have h := hrow.out
      rw [List.take_of_length_le (by rw [HN.out]; exact Nat.le_refl _)] at h
      have hRn : R = (decide (k ≤ 16) && decide (n ≤ 400)) := by rw [HR.out, h, HN.out]
      have HRn := Lib.hid hRn
      clear h hrow hRn
      by_cases h16 : k ≤ 16
      · have h16i : (k : Int) ≤ 16 := by omega
        by_cases h4 : n ≤ 400
        · have h4i : (n : Int) ≤ 400 := by omega
          go_wp2
          go_ret
          exact ⟨by rw [HRn.out, decide_eq_true h16, decide_eq_true h4]; rfl, hB⟩
        · have h4i : ¬ (n : Int) ≤ 400 := by omega
          go_wp2
          go_ret
          exact ⟨by rw [HRn.out, decide_eq_false h4, Bool.and_false]; rfl, hB⟩
      · have h16i : ¬ (k : Int) ≤ 16 := by omega
        go_wp2
        go_ret
        exact ⟨by rw [HRn.out, decide_eq_false h16, Bool.false_and]; rfl, hB⟩
end Go.Proofs.YtfpoflddnlbpjaaGreatDoor
