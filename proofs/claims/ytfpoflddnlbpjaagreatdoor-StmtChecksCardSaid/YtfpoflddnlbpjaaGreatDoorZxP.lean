/- What each statement of layer 8 asks ahead of all else. -/
import Derived.Test.YtfpoflddnlbpjaaGreatDoorZvP
import Derived.Test.YtfpoflddnlbpjaaGreatDoorZwP
namespace Go.Proofs.YtfpoflddnlbpjaaGreatDoor
open Go.ChangeShapes Go.WideShapes Go.ChangeAt Go.RowKit
set_option linter.unusedVariables false
structure AlH (w : World) (b o bp op cp bs os cs : Nat) (mr : Option Addr) (cr : Nat) (mb : Option Addr) (cb : Nat) : Prop where
  c0 : w.cell? ⟨b, o, none⟩ = some (.string ⟨#[109, 97, 105, 110]⟩)
  c1 : w.cell? ⟨b, o + 1, none⟩ = some (.slice (some ⟨bp, op, none⟩) 2 cp)
  c2 : w.cell? ⟨b, o + 2, none⟩ = some (.slice (some ⟨bs, os, none⟩) 2 cs)
  c3 : w.cell? ⟨b, o + 3, none⟩ = some (.bool false)
  c4 : w.cell? ⟨b, o + 4, none⟩ = some (.slice mr 1 cr)
  p4 : w.cell? ⟨bp, op + 4, none⟩ = some (.string ⟨#[107]⟩)
  p5 : w.cell? ⟨bp, op + 4 + 1, none⟩ = some (.bool true)
  p6 : w.cell? ⟨bp, op + 4 + 2, none⟩ = some (.bool true)
  p7 : w.cell? ⟨bp, op + 4 + 3, none⟩ = some (.bool false)
  s9 : w.cell? ⟨bs, os + 9, none⟩ = some (.int .u8 6)
  s16 : w.cell? ⟨bs, os + 9 + 7, none⟩ = some (.slice mb 1 cb)
theorem AlH.of {w w' : World} {b o bp op cp bs os cs : Nat} {mr : Option Addr} {cr : Nat} {mb : Option Addr} {cb : Nat} (h : AlH w b o bp op cp bs os cs mr cr mb cb) (hb : Below w.heap.size w w') : AlH w' b o bp op cp bs os cs mr cr mb cb :=
  ⟨stay hb h.c0, stay hb h.c1, stay hb h.c2, stay hb h.c3, stay hb h.c4, stay hb h.p4, stay hb h.p5, stay hb h.p6, stay hb h.p7, stay hb h.s9, stay hb h.s16⟩
theorem al_holds {G : Nat → Prop} {w : World} {ma : Option Addr} (h : FdsAt G w [aF] ma) : ∃ (b o bp op cp bs os cs : Nat) (mr : Option Addr) (cr : Nat) (mb : Option Addr) (cb : Nat), ma = some ⟨b, o, none⟩ ∧ AlH w b o bp op cp bs os cs mr cr mb cb := by
  obtain ⟨b, o, K, rfl, hG, hx, hK, hc⟩ := h 0 (by simp)
  obtain ⟨ps, bd, rt, hx2, enp, enb, enr, -, -, -, hP, hB, hR⟩ := fx_all hK
  rw [hx2] at hx
  have hx' : (⟨K.nm, ps, bd, K.sec, rt⟩ : Fd) = aF := hx
  unfold aF at hx'
  injection hx' with e1 e2 e3 e4 e5
  subst e2 e3 e5
  obtain ⟨bp, op, rfl', hGp, p4, p5, p6, p7⟩ := hP 1 (by simp)
  obtain ⟨bs, os, K2, rfl2, hGs, -, -, hxK, hnb, hnl, -, -, -, -, hs⟩ := sts_at _ _ hB 1 (by simp)
  have hk6 : K2.k = 6 := by injection hxK with e1; exact e1.symm
  refine ⟨b, o, bp, op, K.cp, bs, os, K.cb, K.mr, K.cr, K2.mb, K2.cb, rfl, ?_⟩
  have c0 := hc 0 _ rfl
  have c1 := hc 1 _ rfl
  have c2 := hc 2 _ rfl
  have c3 := hc 3 _ rfl
  have c4 := hc 4 _ rfl
  have s9 := hs 0 _ rfl
  have s16 := hs 7 _ rfl
  rw [e1] at c0
  rw [enp, rfl'] at c1
  rw [enb, rfl2] at c2
  rw [e4] at c3
  rw [enr] at c4
  rw [hk6] at s9
  rw [hnb] at s16
  exact ⟨by simpa using show _ = some (Value.string ⟨#[109, 97, 105, 110]⟩) from c0, by simpa using c1, by simpa using c2, by simpa using c3, by simpa using c4, by simpa using show _ = some (Value.string ⟨#[107]⟩) from p4, by simpa using p5, by simpa using p6, by simpa using p7, by simpa using s9, by simpa using show _ = some (Value.slice K2.mb 1 K2.cb) from s16⟩
set_option maxRecDepth 100000 in
set_option maxHeartbeats 8000000 in
theorem alive08 (w : World) (hT : Tb w) : Calls Tryz.prog 11 #[] w fun e w' => e = .returned (.bool true) ∧ Below w.heap.size w w' := by
  have k1 : Calls Tryz.prog 16 #[.string ⟨#[102, 110, 32, 109, 97, 105, 110, 40, 110, 117, 109, 32, 110, 44, 32, 118, 105, 101, 119, 32, 115, 101, 99, 114, 101, 116, 32, 107, 41, 32, 123, 32, 108, 101, 116, 32, 120, 32, 61, 32, 35, 107, 59, 32, 119, 104, 105, 108, 101, 32, 40, 120, 32, 60, 32, 110, 41, 32, 123, 32, 120, 32, 61, 32, 40, 120, 32, 43, 32, 49, 41, 59, 32, 125, 32, 125, 32, 61, 32, 120, 59]⟩] w fun e w' => (∃ (b o bp op cp bs os cs : Nat) (mr : Option Addr) (cr : Nat) (mb : Option Addr) (cb cap : Nat), e = .returned (.tuple #[.agg #[.slice (some ⟨b, o, none⟩) 1 cap], .nilIface]) ∧ AlH w' b o bp op cp bs os cs mr cr mb cb ∧ FdsAt (fun b => b < w'.heap.size) w' [aF] (some ⟨b, o, none⟩)) ∧ Below w.heap.size w w' := by
    have := parse_any ⟨#[102, 110, 32, 109, 97, 105, 110, 40, 110, 117, 109, 32, 110, 44, 32, 118, 105, 101, 119, 32, 115, 101, 99, 114, 101, 116, 32, 107, 41, 32, 123, 32, 108, 101, 116, 32, 120, 32, 61, 32, 35, 107, 59, 32, 119, 104, 105, 108, 101, 32, 40, 120, 32, 60, 32, 110, 41, 32, 123, 32, 120, 32, 61, 32, 40, 120, 32, 43, 32, 49, 41, 59, 32, 125, 32, 125, 32, 61, 32, 120, 59]⟩ hT
    rw [show parB (⟨#[102, 110, 32, 109, 97, 105, 110, 40, 110, 117, 109, 32, 110, 44, 32, 118, 105, 101, 119, 32, 115, 101, 99, 114, 101, 116, 32, 107, 41, 32, 123, 32, 108, 101, 116, 32, 120, 32, 61, 32, 35, 107, 59, 32, 119, 104, 105, 108, 101, 32, 40, 120, 32, 60, 32, 110, 41, 32, 123, 32, 120, 32, 61, 32, 40, 120, 32, 43, 32, 49, 41, 59, 32, 125, 32, 125, 32, 61, 32, 120, 59]⟩ : ByteArray).data.toList = .ok [aF] from al1] at this
    refine this.mono fun e w' ⟨hb, ma, cap, he, hl, hF⟩ => ⟨?_, hb⟩
    obtain ⟨b, o, bp, op, cp, bs, os, cs, mr, cr, mb, cb, rfl, hH⟩ := al_holds hF
    exact ⟨b, o, bp, op, cp, bs, os, cs, mr, cr, mb, cb, cap, he, hH, hF.mono fun b hb => hb.2⟩
  have k2 : ∀ w, Tb w → Calls Tryz.prog 16 #[.string ⟨#[102, 110, 32, 102, 40, 41, 32, 123, 32, 120, 32, 61, 32, 59, 32, 125, 59]⟩] w fun e w' => e = .returned (.tuple #[.agg #[.slice none 0 0], .iface 36 (.agg #[.int .i64 13, .int .i64 7])]) ∧ Below w.heap.size w w' := fun w hT => by
    have := parse_any ⟨#[102, 110, 32, 102, 40, 41, 32, 123, 32, 120, 32, 61, 32, 59, 32, 125, 59]⟩ hT
    rw [show parB (⟨#[102, 110, 32, 102, 40, 41, 32, 123, 32, 120, 32, 61, 32, 59, 32, 125, 59]⟩ : ByteArray).data.toList = .er 7 13 from al2] at this
    exact this.mono fun e w' ⟨hb, he⟩ => ⟨he, hb⟩
  have k3 : ∀ w, Tb w → Calls Tryz.prog 16 #[.string ⟨#[]⟩] w fun e w' => (∃ (ma : Option Addr) (cap : Nat), e = .returned (.tuple #[.agg #[.slice ma 0 cap], .nilIface])) ∧ Below w.heap.size w w' := fun w hT => by
    have := parse_any ⟨#[]⟩ hT
    rw [show parB (⟨#[]⟩ : ByteArray).data.toList = .ok [] from al3] at this
    exact this.mono fun e w' ⟨hb, ma, cap, he, hl, hF⟩ => ⟨⟨ma, cap, he⟩, hb⟩
  have ck : ∀ w b o cap, FdsAt (fun b => b < w.heap.size) w [aF] (some ⟨b, o, none⟩) → Tb w → Calls Tryz.prog 13 #[.agg #[.slice (some ⟨b, o, none⟩) 1 cap]] w fun e w' => e = .returned (.int .i64 0) ∧ Below w.heap.size w w' := fun w b o cap hF hT => by
    have := chk_any [aF] (some ⟨b, o, none⟩) cap w hF (by simp) hT
    rw [alM] at this
    exact this
  have kT : ∀ w, Tb w → Calls Tryz.prog 23 #[.iface 36 (.agg #[.int .i64 13, .int .i64 7]), .agg #[.int .i64 13, .int .i64 7]] w fun e w' => e = .returned (.bool true) ∧ Below w.heap.size w w' := fun w hT => told_er 13 7 (by omega) w hT
  go_enter Tryz.func11, Tryz.ntmps11
  go_wp2_with first
    | (go_at_call 16; ((with_reducible refine k1.mono ?_); (rintro e x1 ⟨⟨b, o, bp, op, cp, bs, os, cs, mr, cr, mb, cb, cap, rfl, hH1, hF1⟩, hb1⟩); (have hT1 := hT.of hb1); (have hA1 := aB (Below.refl x1.heap.size x1) (.cells #[.slice (some ⟨b, o, none⟩) 1 cap] 24)); (have hK := ck _ b o cap ((FdsAt.of hF1 hA1).mono (fun b hb => Nat.lt_of_lt_of_le hb hA1.size)) (hT1.of hA1)); (have hr1 := rowG_at #[.slice (some ⟨b, o, none⟩) 1 cap] 24 x1 _ rfl)))
    | (go_at_call 13; ((with_reducible refine hK.mono ?_); (rintro e x2 ⟨rfl, hb2⟩); (have hB2 := tr hA1 hb2); (have hT2 := hT1.of hB2); (have hH2 := hH1.of hB2); (have hr2 := rowG_b hr1 hb2); (have z0 := hr2.1 0 (by simp)); (have zl := hr2.2.2); (obtain ⟨u0, u1, u2, u3, u4, -, -, -, -, -, -⟩ := hH2); (have hbl := World.block_lt_of_cell? x2 _ u0); (have hA2 := aB (Below.refl x2.heap.size x2) (.cells #[.string ⟨#[109, 97, 105, 110]⟩, .slice (some ⟨bp, op, none⟩) 2 cp, .slice (some ⟨bs, os, none⟩) 2 cs, .bool false, .slice mr 1 cr] 47)); (have hf2 := rowG_at #[.string ⟨#[109, 97, 105, 110]⟩, .slice (some ⟨bp, op, none⟩) 2 cp, .slice (some ⟨bs, os, none⟩) 2 cs, .bool false, .slice mr 1 cr] 47 x2 _ rfl); (have hP2 := k2 _ (hT2.of hA2))))
    | (go_at_call 16; ((with_reducible refine hP2.mono ?_); (rintro e x3 ⟨rfl, hb3⟩); (have hB3 := tr hA2 hb3); (have hT3 := hT2.of hB3); (have hf3 := rowG_b hf2 hb3); (have hA3 := aB (Below.refl x3.heap.size x3) (.cells #[.slice none 0 0] 24)); (have hP3 := k3 _ (hT3.of hA3))))
    | (go_at_call 16; ((with_reducible refine hP3.mono ?_); (rintro e x4 ⟨⟨mq, cq, rfl⟩, hb4⟩); (have hB4 := tr hA3 hb4); (have hf4 := rowG_b (rowG_b hf3 hA3) hb4); (obtain ⟨y0, y1, y2, y3, y4, yf, yl⟩ := fiveF hf4); (obtain ⟨-, -, -, -, -, v4, v5, v6, v7, v9, v16⟩ := hH1.of (tr (tr hB2 hB3) hB4)); (have hlp := World.block_lt_of_cell? x4 _ v4); (have hls := World.block_lt_of_cell? x4 _ v9); (have hT5 := (hT3.of hB4).of (aB (Below.refl x4.heap.size x4) (.cells #[.slice mq 0 cq] 24))); (have hTold := kT _ hT5)))
    | (go_at_call 23; ((with_reducible refine hTold.mono ?_); (rintro e x5 ⟨rfl, hb5⟩); (have hr5 := rowG_b (rowG_at #[.slice mq 0 cq] 24 x4 _ rfl) hb5); (have g0 := hr5.1 0 (by simp)); (have gl := hr5.2.2)))
  go_ret
  exact ⟨rfl, tr (tr (aB (tr (tr (tr hb1 hB2) hB3) hB4) _) hb5) (Below.refl _ _)⟩
end Go.Proofs.YtfpoflddnlbpjaaGreatDoor
