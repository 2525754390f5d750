/- Contracts of the reader: parts, number, name, op. -/
import Derived.Test.YtfbjljcmmbdhkaaGreatDoorD13
namespace Go.Proofs.YtfbjljcmmbdhkaaGreatDoor
set_option linter.unusedVariables false
set_option linter.unusedSimpArgs false
set_option maxRecDepth 100000
set_option maxHeartbeats 200000000
open Go.ChangeShapes Go.WideShapes Go.ChangeAt Go.RowKit
def SgF (w : World) (rb : Nat) (s : List UInt8) (f : Value) : Prop := ∃ br bs, f = .func (.func 203) #[] #[.pointer (some ⟨br, 0, none⟩), .pointer (some ⟨bs, 0, none⟩)] ∧ w.cell? ⟨br, 0, none⟩ = some (.pointer (some ⟨rb, 0, none⟩)) ∧ w.cell? ⟨bs, 0, none⟩ = some (.string (str s))
theorem SgF.of {w w' : World} {rb : Nat} {s : List UInt8} {f : Value} (h : SgF w rb s f) (hb : Below w.heap.size w w') : SgF w' rb s f := by
 obtain ⟨br, bs, rfl, h1, h2⟩ := h
 exact ⟨br, bs, rfl, stay hb h1, stay hb h2⟩
theorem yQr (rb : Nat) (s : List UInt8) (w : World) : Calls Tryz.prog 197 #[.pointer (some ⟨rb, 0, none⟩), .string (str s)] w fun e w' => (∃ f, e = .returned f ∧ SgF w' rb s f) ∧ Below w.heap.size w w' := by
 go_enter Tryz.func197, Tryz.ntmps197
 go_wp2
 go_ret
 have hn := zQp (w.alloc (.cells #[.pointer (some ⟨rb, 0, none⟩)] 249)) #[.string (str s)] 9 0
 rw [World.size_alloc] at hn
 refine ⟨⟨_, rfl, w.heap.size, w.heap.size + 1, rfl, ?_, hn⟩, aB (aB (Below.refl _ _) _) _⟩
 exact (World.cell?_alloc_lt _ _ ⟨w.heap.size, 0, none⟩ (by simp)).trans (zQp w _ _ 0)
abbrev bnd (f rb : Nat) : Value := .func (.func f) #[.pointer (some ⟨rb, 0, none⟩)] #[]
theorem parts_num (rb : Nat) (w : World) : Calls Tryz.prog 193 #[.pointer (some ⟨rb, 0, none⟩), .int .u8 1] w fun e w' => (∃ g, e = .returned (.slice (some ⟨g, 0, none⟩) 1 1) ∧ g < w'.heap.size ∧ (w'.cell? ⟨g, 0, none⟩ = some (bnd 196 rb))) ∧ Below w.heap.size w w' := by
 go_enter Tryz.func193, Tryz.ntmps193
 go_wp2
 go_ret
 have hn := zQp w #[bnd 196 rb] 254
 exact ⟨⟨_, rfl, by simp, hn 0⟩, aB (Below.refl _ _) _⟩
theorem parts_var (rb : Nat) (w : World) : Calls Tryz.prog 193 #[.pointer (some ⟨rb, 0, none⟩), .int .u8 2] w fun e w' => (∃ g, e = .returned (.slice (some ⟨g, 0, none⟩) 1 1) ∧ g < w'.heap.size ∧ (w'.cell? ⟨g, 0, none⟩ = some (bnd 198 rb))) ∧ Below w.heap.size w w' := by
 go_enter Tryz.func193, Tryz.ntmps193
 go_wp2
 go_ret
 have hn := zQp w #[bnd 198 rb] 254
 exact ⟨⟨_, rfl, by simp, hn 0⟩, aB (Below.refl _ _) _⟩
theorem parts_len (rb : Nat) (w : World) : Calls Tryz.prog 193 #[.pointer (some ⟨rb, 0, none⟩), .int .u8 4] w fun e w' => (∃ g, e = .returned (.slice (some ⟨g, 0, none⟩) 2 2) ∧ g < w'.heap.size ∧ (∃ f, w'.cell? ⟨g, 0, none⟩ = some f ∧ SgF w' rb [35] f) ∧ (w'.cell? ⟨g, 1, none⟩ = some (bnd 198 rb))) ∧ Below w.heap.size w w' := by
 have hS0 : ∀ w, Calls Tryz.prog 197 #[.pointer (some ⟨rb, 0, none⟩), .string ⟨#[35]⟩] w fun e w' => (∃ f, e = .returned f ∧ SgF w' rb [35] f) ∧ Below w.heap.size w w' := yQr rb [35]
 go_enter Tryz.func193, Tryz.ntmps193
 go_wp2_with (first | (go_at_call 197; ((with_reducible refine (hS0 _).mono ?_); (rintro e v0 ⟨⟨f0, rfl, br0, bs0, rfl, hr0, hs0⟩, hb0⟩); have hf0 : SgF v0 rb [35] _ := ⟨br0, bs0, rfl, hr0, hs0⟩)))
 go_ret
 have hn := zQp v0 #[.func (.func 203) #[] #[.pointer (some ⟨br0, 0, none⟩), .pointer (some ⟨bs0, 0, none⟩)], bnd 198 rb] 254
 exact ⟨⟨_, rfl, by simp, ⟨_, hn 0, SgF.of hf0 (aB (Below.refl _ _) _)⟩, hn 1⟩, aB hb0 _⟩
theorem parts_byte (rb : Nat) (w : World) : Calls Tryz.prog 193 #[.pointer (some ⟨rb, 0, none⟩), .int .u8 5] w fun e w' => (∃ g, e = .returned (.slice (some ⟨g, 0, none⟩) 4 4) ∧ g < w'.heap.size ∧ (w'.cell? ⟨g, 0, none⟩ = some (bnd 198 rb)) ∧ (∃ f, w'.cell? ⟨g, 1, none⟩ = some f ∧ SgF w' rb [91] f) ∧ (w'.cell? ⟨g, 2, none⟩ = some (bnd 199 rb)) ∧ (∃ f, w'.cell? ⟨g, 3, none⟩ = some f ∧ SgF w' rb [93] f)) ∧ Below w.heap.size w w' := by
 have hS0 : ∀ w, Calls Tryz.prog 197 #[.pointer (some ⟨rb, 0, none⟩), .string ⟨#[91]⟩] w fun e w' => (∃ f, e = .returned f ∧ SgF w' rb [91] f) ∧ Below w.heap.size w w' := yQr rb [91]
 have hS1 : ∀ w, Calls Tryz.prog 197 #[.pointer (some ⟨rb, 0, none⟩), .string ⟨#[93]⟩] w fun e w' => (∃ f, e = .returned f ∧ SgF w' rb [93] f) ∧ Below w.heap.size w w' := yQr rb [93]
 go_enter Tryz.func193, Tryz.ntmps193
 go_wp2_with (first | (go_at_call 197; ((with_reducible refine (hS0 _).mono ?_); (rintro e v0 ⟨⟨f0, rfl, br0, bs0, rfl, hr0, hs0⟩, hb0⟩); have hf0 : SgF v0 rb [91] _ := ⟨br0, bs0, rfl, hr0, hs0⟩)) | (go_at_call 197; ((with_reducible refine (hS1 _).mono ?_); (rintro e v1 ⟨⟨f1, rfl, br1, bs1, rfl, hr1, hs1⟩, hb1⟩); have hf1 : SgF v1 rb [93] _ := ⟨br1, bs1, rfl, hr1, hs1⟩)))
 go_ret
 have hn := zQp v1 #[bnd 198 rb, .func (.func 203) #[] #[.pointer (some ⟨br0, 0, none⟩), .pointer (some ⟨bs0, 0, none⟩)], bnd 199 rb, .func (.func 203) #[] #[.pointer (some ⟨br1, 0, none⟩), .pointer (some ⟨bs1, 0, none⟩)]] 254
 exact ⟨⟨_, rfl, by simp, hn 0, ⟨_, hn 1, SgF.of (SgF.of hf0 hb1) (aB (Below.refl _ _) _)⟩, hn 2, ⟨_, hn 3, SgF.of hf1 (aB (Below.refl _ _) _)⟩⟩, aB (tr hb0 hb1) _⟩
theorem parts_bin (rb : Nat) (w : World) : Calls Tryz.prog 193 #[.pointer (some ⟨rb, 0, none⟩), .int .u8 3] w fun e w' => (∃ g, e = .returned (.slice (some ⟨g, 0, none⟩) 5 5) ∧ g < w'.heap.size ∧ (∃ f, w'.cell? ⟨g, 0, none⟩ = some f ∧ SgF w' rb [40] f) ∧ (w'.cell? ⟨g, 1, none⟩ = some (bnd 199 rb)) ∧ (w'.cell? ⟨g, 2, none⟩ = some (bnd 200 rb)) ∧ (w'.cell? ⟨g, 3, none⟩ = some (bnd 199 rb)) ∧ (∃ f, w'.cell? ⟨g, 4, none⟩ = some f ∧ SgF w' rb [41] f)) ∧ Below w.heap.size w w' := by
 have hS0 : ∀ w, Calls Tryz.prog 197 #[.pointer (some ⟨rb, 0, none⟩), .string ⟨#[40]⟩] w fun e w' => (∃ f, e = .returned f ∧ SgF w' rb [40] f) ∧ Below w.heap.size w w' := yQr rb [40]
 have hS1 : ∀ w, Calls Tryz.prog 197 #[.pointer (some ⟨rb, 0, none⟩), .string ⟨#[41]⟩] w fun e w' => (∃ f, e = .returned f ∧ SgF w' rb [41] f) ∧ Below w.heap.size w w' := yQr rb [41]
 go_enter Tryz.func193, Tryz.ntmps193
 go_wp2_with (first | (go_at_call 197; ((with_reducible refine (hS0 _).mono ?_); (rintro e v0 ⟨⟨f0, rfl, br0, bs0, rfl, hr0, hs0⟩, hb0⟩); have hf0 : SgF v0 rb [40] _ := ⟨br0, bs0, rfl, hr0, hs0⟩)) | (go_at_call 197; ((with_reducible refine (hS1 _).mono ?_); (rintro e v1 ⟨⟨f1, rfl, br1, bs1, rfl, hr1, hs1⟩, hb1⟩); have hf1 : SgF v1 rb [41] _ := ⟨br1, bs1, rfl, hr1, hs1⟩)))
 go_ret
 have hn := zQp v1 #[.func (.func 203) #[] #[.pointer (some ⟨br0, 0, none⟩), .pointer (some ⟨bs0, 0, none⟩)], bnd 199 rb, bnd 200 rb, bnd 199 rb, .func (.func 203) #[] #[.pointer (some ⟨br1, 0, none⟩), .pointer (some ⟨bs1, 0, none⟩)]] 254
 exact ⟨⟨_, rfl, by simp, ⟨_, hn 0, SgF.of (SgF.of hf0 hb1) (aB (Below.refl _ _) _)⟩, hn 1, hn 2, hn 3, ⟨_, hn 4, SgF.of hf1 (aB (Below.refl _ _) _)⟩⟩, aB (tr hb0 hb1) _⟩
theorem same07 : ∀ (K : Nat) (e : Xp), e.nodes ≤ K → ∀ (w : World) (v1 v2 : Value) (G1 G2 : Nat → Prop), IsE G1 w v1 e → IsE G2 w v2 e →
 Calls Tryz.prog 47 #[v1, v2] w fun r w' => r = .returned (.bool true) ∧ Below w.heap.size w w' := by
 intro K
 induction K with
 | zero => intro e h; have := xXm e; omega
 | succ K ih =>
  intro e hn w v1 v2 G1 G2 h1 h2
  cases h1 with
  | @mk k n s o l ma cap ho hl hk =>
   cases h2 with
   | @mk _ _ _ _ _ mb cap2 _ _ hk2 =>
    have HIH := Lib.hid ih
    have hno : ∀ i (h : i < l.length), l[i].nodes ≤ K := fun i h => by
     have := yZo (List.getElem_mem h)
     rw [Xp.nodes] at hn
     omega
    have HN := Lib.hid hno
    have HK := Lib.hid hk
    have HK2 := Lib.hid hk2
    obtain ⟨N, hN⟩ : ∃ N, N = l.length := ⟨_, rfl⟩
    rw [← hN] at hl ⊢
    have HL := Lib.hid hN
    clear ih hno hk hk2 hN hn
    go_enter Tryz.func47, Tryz.ntmps47
    go_wp2
    obtain ⟨W, hW⟩ : ∃ W, (w.alloc (.cells #[.int .u8 (k : Int), .int .u64 (n : Int), .string (str s), .int .u8 (o : Int), .slice ma N cap] 47)).alloc (.cells #[.int .u8 (k : Int), .int .u64 (n : Int), .string (str s), .int .u8 (o : Int), .slice mb N cap2] 47) = W := ⟨_, rfl⟩
    have hBw : Below w.heap.size w W := by rw [← hW]; exact aB (aB (Below.refl _ _) _) _
    have b1 : W.cell? ⟨w.heap.size, 4, none⟩ = some (.slice ma N cap) := by rw [← hW]; exact (World.cell?_alloc_lt _ _ ⟨w.heap.size, 4, none⟩ (by simp)).trans (zQp w _ _ 4)
    have b2 : W.cell? ⟨w.heap.size + 1, 4, none⟩ = some (.slice mb N cap2) := by
     rw [← hW]
     have := zQp (w.alloc (.cells #[.int .u8 (k : Int), .int .u64 (n : Int), .string (str s), .int .u8 (o : Int), .slice ma N cap] 47)) #[.int .u8 (k : Int), .int .u64 (n : Int), .string (str s), .int .u8 (o : Int), .slice mb N cap2] 47 4
     rw [World.size_alloc] at this
     exact this
    have hz : w.heap.size + 1 < W.heap.size := by rw [← hW]; simp
    rw [hW]
    clear hW
    go_loopw [5] (fun i wr => ∃ j : Nat, j ≤ N ∧ i = .int .i64 (j : Int) ∧ Below W.heap.size W wr) (fun i _ => N - (intOf i).toNat)
    case atStart => exact ⟨0, Nat.zero_le _, rfl, Below.refl _ _⟩
    case round =>
     obtain ⟨j, hj, rfl, hB⟩ := hrel
     have a1 := stay hB b1
     have a2 := stay hB b2
     have hz1 : w.heap.size + 1 < wr.heap.size := Nat.lt_of_lt_of_le hz hB.size
     have hz0 : w.heap.size < wr.heap.size := by omega
     by_cases hlt : j < N
     ·have hlt' : j < l.length := by rw [← HL.out]; exact hlt
      obtain ⟨g1, o1, rfl⟩ := zXb HK.out (by omega)
      obtain ⟨g2, o2, rfl⟩ := zXb HK2.out (by omega)
      obtain ⟨ma', cap', c0, c1, c2, c3, c4, hE1⟩ := (zKk l g1 o1 HK.out j hlt').isE
      obtain ⟨mb', cap2', d0, d1, d2, d3, d4, hE2⟩ := (zKk l g2 o2 HK2.out j hlt').isE
      have hBr : Below w.heap.size w wr := hBw.trans (hB.mono hBw.size)
      have q0 := stay hBr c0
      have q1 := stay hBr c1
      have q2 := stay hBr c2
      have q3 := stay hBr c3
      have q4 := stay hBr c4
      have r0 := stay hBr d0
      have r1 := stay hBr d1
      have r2 := stay hBr d2
      have r3 := stay hBr d3
      have r4 := stay hBr d4
      have hI := fun w' (hb : Below wr.heap.size wr w') => HIH.out l[j] (HN.out j hlt') w' _ _ _ _ ((hE1.of hBr).of hb) ((hE2.of hBr).of hb)
      clear hE1 hE2 c0 c1 c2 c3 c4 d0 d1 d2 d3 d4
      go_wp2
      refine zXm (by kernel_rfl) (by kernel_rfl) ?_
      repeat (first
       | go_big_quiet_skip
       | (refine BigFrame.wpQuiet_want (by kernel_rfl) fun K hK => ?_
          apply Exists.intro
          refine ⟨fun w' hb' => ?_, ?_⟩
          ·have s0 := stay hb' a1
           have s1 := stay hb' a2
           have s2 := stay hb' q0
           have s3 := stay hb' q1
           have s4 := stay hb' q2
           have s5 := stay hb' q3
           have s6 := stay hb' q4
           have s7 := stay hb' r0
           have s8 := stay hb' r1
           have s9 := stay hb' r2
           have s10 := stay hb' r3
           have s11 := stay hb' r4
           go_simp
           first
            | exact rfl
            | exact ⟨rfl, hb'⟩
            | (go_at_call 47
               exact (hI _ hb').mono fun e w'' ⟨he, hb2⟩ => ⟨he, zXo hb' (Nat.le_refl _) hb2⟩)
          go_simp
          refine hK _ ?_
          clear hK K))
      refine wpQuiet_nil ?_
      intro w2 hb2
      go_wp2
      go_roundw
      case rel => exact ⟨j + 1, by omega, by go_num, hB.trans (hb2.mono hB.size)⟩
      case measure => first | (simp [intOf]; done) | (simp [intOf]; omega)
     ·obtain rfl : j = N := by omega
      go_wp2
      go_ret
      exact ⟨rfl, hBw.trans (hB.mono hBw.size)⟩
theorem tell_any : ∀ d, jZg d := by
 intro d
 induction d with
 | zero => intro x v l T B w h; simp [mayB] at h
 | succ d ih =>
  intro x v l T B w hm hE ho hB hl hES hgB
  cases hE with
  | @mk k n s o kids ma cap h256 hkl hk =>
   rw [mayB, Bool.and_eq_true] at hm
   obtain ⟨hf, ha⟩ := hm
   rw [Xp.nodes] at hl
   rcases xQu hf with rfl | rfl | rfl | rfl | rfl
   ·obtain ⟨rfl, rfl, hm0⟩ := fit1 hf
    obtain rfl : kids = [] := List.length_eq_zero_iff.1 hm0
    exact tell_num n ma cap B l T w ho hB (by omega)
   ·obtain ⟨rfl, hn, rfl, hm0⟩ := fit2 hf
    obtain rfl : kids = [] := List.length_eq_zero_iff.1 hm0
    exact tell_var s ma cap B l T w ho hB (by omega)
   ·obtain ⟨rfl, rfl, hoo, hm0⟩ := fit3 hf
    obtain ⟨a, b, rfl⟩ : ∃ a b, kids = [a, b] := by
     match kids, hm0 with
     | [a, b], _ => exact ⟨a, b, rfl⟩
    simp only [List.all_cons, List.all_nil, Bool.and_true, Bool.and_eq_true] at ha
    obtain ⟨blk, off, rfl⟩ := zXb hk (by simp)
    obtain ⟨m0, c0, k0⟩ := yXb hk 0 (by simp)
    obtain ⟨m1, c1, k1⟩ := yXb hk 1 (by simp)
    simp only [Nat.zero_mul, Nat.add_zero, Nat.one_mul, List.getElem_cons_zero, List.getElem_cons_succ] at k0 k1
    simp only [zXv] at hl
    exact tell_3 d ih a b ha.1 ha.2 o h256 blk off cap m0 c0 m1 c1 B l T w ho hB k0 k1 (by omega) hES hgB
   ·obtain ⟨rfl, hn, rfl, hm0⟩ := fit4 hf
    obtain rfl : kids = [] := List.length_eq_zero_iff.1 hm0
    exact tell_4 s ma cap B l T w ho hB (by omega)
   ·obtain ⟨rfl, hn, rfl, hm0⟩ := fit5 hf
    obtain ⟨a, rfl⟩ : ∃ a, kids = [a] := by
     match kids, hm0 with
     | [a], _ => exact ⟨a, rfl⟩
    simp only [List.all_cons, List.all_nil, Bool.and_true] at ha
    obtain ⟨blk, off, rfl⟩ := zXb hk (by simp)
    obtain ⟨m0, c0, k0⟩ := yXb hk 0 (by simp)
    simp only [Nat.zero_mul, Nat.add_zero, List.getElem_cons_zero] at k0
    simp only [zXv] at hl
    exact tell_5 d ih a ha s blk off cap m0 c0 B l T w ho hB k0 (by omega) hES hgB
def IsB (w : World) (v : Value) (e : Xp) : Prop := IsE (fun b => b < w.heap.size) w v e
theorem IsB.of {w w' : World} {v : Value} {e : Xp} (h : IsB w v e) (hb : Below w.heap.size w w') : IsB w' v e := (h.mono (fun b hb' => Nat.lt_of_lt_of_le hb' hb.size)).of hb
theorem es_lt {w : World} (h : zKf w) : 9 < w.heap.size := World.block_lt_of_cell? w _ (h 0 (by omega))
theorem Tell_yes (e : Xp) (v : Value) (w : World) (hE : IsB w v e) (hT : Tb w) (hm : mayB 40 e = true) (hn : e.nodes ≤ 100000) :
 Calls Tryz.prog 150 #[v] w fun r w' => (∃ l, r = .returned (.tuple #[l, .int .i64 0]) ∧ w'.ownsRow w.heap.size 95 4 l (zs (zQw 40 e)).length (zQl (zs (zQw 40 e)))) ∧ Below w.heap.size w w' := by
 have hC : ∀ o, Calls Tryz.prog 129 #[v] (w.alloc o) fun r w' => r = .returned (.int .i64 0) ∧ Below (w.alloc o).heap.size (w.alloc o) w' := fun o => by
  have := xXx _ e v (w.alloc o) (hE.of (aB (Below.refl _ _) _)) (hT.alloc _)
  rw [hm] at this
  exact this
 have hL : ∀ w1, Below w.heap.size w w1 → Calls Tryz.prog 165 #[.slice none 0 0, v] w1 fun r w' => ∃ l', r = .returned l' ∧ Tl w1.heap.size w1 w' (.slice none 0 0) l' (zs (zQw 40 e)) := fun w1 hb =>
  tell_any 40 e v (.slice none 0 0) [] w1.heap.size w1 hm (hE.of hb) (World.ownsRow_nil _ _ _ _) (Nat.le_refl _) (by simp only [List.length_nil]; omega) (hT.of hb).esg (es_lt (hT.of hb).esg)
 cases hE with
 | @mk k n s o kids ma cap h256 hkl hk =>
  clear hk
  go_enter Tryz.func150, Tryz.ntmps150
  go_wp2_with (first | (go_at_call 129; ((with_reducible refine (hC _).mono ?_); (rintro r w1 ⟨rfl, hb⟩); obtain ⟨hc, hf⟩ := zKn hb; have hz := hz1 hb; have hB1 : Below w.heap.size w w1 := tr (aB (Below.refl _ _) _) hb)) | (go_at_call 165; ((with_reducible refine (hL _ hB1).mono ?_); (rintro r w2 ⟨l2, rfl, hl2⟩))))
  go_ret2
  have hB2 : Below w.heap.size w w2 := tr hB1 (hl2.only.below (fun j hj => by cases hj) (Nat.le_refl _))
  exact ⟨⟨_, rfl, zXp hB1.size hl2.own⟩, hB2⟩
theorem fld1 (k : Int) (s : ByteArray) (n z : Int) : ∀ w : World, (Instr.field 95 (.agg #[.int .u8 k, .string s, .int .u64 n, .int .i64 z]) 1).run Tryz.prog w = .ok (.string s) w := fun _ => by kernel_rfl
theorem fld2 (k : Int) (s : ByteArray) (n z : Int) : ∀ w : World, (Instr.field 95 (.agg #[.int .u8 k, .string s, .int .u64 n, .int .i64 z]) 2).run Tryz.prog w = .ok (.int .u64 n) w := fun _ => by kernel_rfl
def GB (j : Nat) : Prop := j = 4 ∨ j = 2 ∨ j = 5 ∨ j = 0 ∨ j = 7 ∨ j = 8 ∨ j = 9 ∨ j = 1
theorem xQl {S : Nat → Prop} {w w' : World} (ho : Only S w w') {n : String} {g : Nat} {cs : Array Value} (hg : Tryz.prog.globalNamed n = some g) (hn : ¬ S g) (h : w.var? Tryz.prog n = some cs) : w'.var? Tryz.prog n = some cs := by
 unfold World.var? at h ⊢
 rw [hg] at h ⊢
 simp only [Option.bind_some] at h ⊢
 have hlt : g < w.heap.size := by
  rcases Nat.lt_or_ge g w.heap.size with h1 | h1
  ·exact h1
  ·rw [Array.getElem?_eq_none h1] at h; simp at h
 rw [ho.block g hlt hn]
 exact h
theorem Tb.only {S : Nat → Prop} {w w' : World} (h : Tb w) (ho : Only S w w') (hn : ∀ j, GB j → ¬ S j) : Tb w' :=
 ⟨fun j hj => ho.cell (hn _ (by unfold GB; simp)) (h.words j hj), fun j hj => ho.cell (hn _ (by unfold GB; simp)) (h.signs j hj), xQl ho (g := 5) (by kernel_rfl) (hn _ (by unfold GB; simp)) h.pow, ho.cell (hn _ (by unfold GB; simp)) h.ety,
  let ⟨a, b, c⟩ := h.syn; ⟨a, b, xQl ho (g := 7) (by kernel_rfl) (hn _ (by unfold GB; simp)) c⟩, let ⟨a, b, c⟩ := h.ran; ⟨a, b, xQl ho (g := 8) (by kernel_rfl) (hn _ (by unfold GB; simp)) c⟩, fun j hj => ho.cell (hn _ (by unfold GB; simp)) (h.esg j hj), fun j hj => ho.cell (hn _ (by unfold GB; simp)) (h.kn j hj)⟩
theorem xKs {w : World} {n : String} {g : Nat} {cs : Array Value} (hg : Tryz.prog.globalNamed n = some g) (h : w.var? Tryz.prog n = some cs) : g < w.heap.size := by
 unfold World.var? at h
 rw [hg] at h
 simp only [Option.bind_some] at h
 rcases Nat.lt_or_ge g w.heap.size with h1 | h1
 ·exact h1
 ·rw [Array.getElem?_eq_none h1] at h; simp at h
theorem Tb.lt {w : World} (h : Tb w) {j : Nat} (hj : GB j) : j < w.heap.size := by
 rcases hj with rfl | rfl | rfl | rfl | rfl | rfl | rfl | rfl
 ·exact World.block_lt_of_cell? w _ (h.words 0 (by omega))
 ·exact World.block_lt_of_cell? w _ (h.signs 0 (by omega))
 ·exact xKs (by kernel_rfl) h.pow
 ·exact World.block_lt_of_cell? w _ h.ety
 ·obtain ⟨a, b, c⟩ := h.syn; exact xKs (by kernel_rfl) c
 ·obtain ⟨a, b, c⟩ := h.ran; exact xKs (by kernel_rfl) c
 ·exact World.block_lt_of_cell? w _ (h.esg 0 (by omega))
 ·exact World.block_lt_of_cell? w _ (h.kn 0 (by omega))
structure Bx (w : World) (eb rb : Nat) (v : Option Nat) (c0 c1 c2 c3 c4 : Value) : Prop where
 row : rowG #[c0, c1, c2, c3, c4] w eb
 n1 : ¬ eb = rb
 n2 : ¬ v = some eb
theorem Bx.e {w : World} {eb rb : Nat} {v : Option Nat} {c0 c1 c2 c3 c4 : Value} (h : Bx w eb rb v c0 c1 c2 c3 c4) : w.cell? ⟨eb, 0, none⟩ = some c0 ∧ w.cell? ⟨eb, 1, none⟩ = some c1 ∧ w.cell? ⟨eb, 2, none⟩ = some c2 ∧ w.cell? ⟨eb, 3, none⟩ = some c3 ∧ w.cell? ⟨eb, 4, none⟩ = some c4 ∧ eb < w.heap.size ∧ ∀ k, w.frozen? ⟨eb, k, none⟩ = false :=
 ⟨h.row.1 0 (by simp), h.row.1 1 (by simp), h.row.1 2 (by simp), h.row.1 3 (by simp), h.row.1 4 (by simp), h.row.2.2, h.row.2.1⟩
theorem Bx.of {w w' : World} {eb rb : Nat} {v : Option Nat} {c0 c1 c2 c3 c4 : Value} (h : Bx w eb rb v c0 c1 c2 c3 c4) (hb : Below w.heap.size w w') : Bx w' eb rb v c0 c1 c2 c3 c4 := { h with row := zQh h.row hb }
theorem Bx.only {w w' : World} {eb rb : Nat} {v : Option Nat} {c0 c1 c2 c3 c4 : Value} {S : Nat → Prop} (h : Bx w eb rb v c0 c1 c2 c3 c4) (ho : Only S w w') (hs : ¬ S eb) : Bx w' eb rb v c0 c1 c2 c3 c4 := { h with row := zQa h.row ho hs }
theorem zXs {c0 c1 c2 c3 c4 : Value} (i : Nat) (hi : i < 5) (u : Value) {w : World} {k : Nat} (h : rowG #[c0, c1, c2, c3, c4] w k) : rowG (#[c0, c1, c2, c3, c4].set! i u) (w.setCell ⟨k, i, none⟩ u) k := by
 refine ⟨fun j hj => ?_, fun j => by rw [World.frozen?_setCell]; exact h.2.1 j, by rw [World.size_setCell]; exact h.2.2⟩
 have hj' : j < 5 := by simpa using hj
 have hc := h.1 j (by simpa using hj')
 by_cases e : j = i
 ·subst e
  rw [zZv (u := #[c0, c1, c2, c3, c4][j]) (by rw [hc]; exact Array.getElem?_eq_getElem (by simpa using hj'))]
  rw [Array.set!_eq_setIfInBounds, Array.getElem?_setIfInBounds]
  simp [hj']
 ·rw [cset (u := #[c0, c1, c2, c3, c4][j]'(by simpa using hj')) (by rw [hc]; exact Array.getElem?_eq_getElem (by simpa using hj')) e]
  rw [Array.set!_eq_setIfInBounds, Array.getElem?_setIfInBounds, if_neg (fun h => e h.symm)]
  exact (Array.getElem?_eq_getElem (by simpa using hj')).symm
structure PtP (w w' : World) (eb rb : Nat) (v : Value) (T : List (Tk × Int)) (p d : Int) (c0 c1 c2 c3 c4 : Value) : Prop where
 rd : IsRd w' rb v T p d
 bx : Bx w' eb rb (ob v T) c0 c1 c2 c3 c4
 only : Only (fun j => j = rb ∨ j = eb) w w'
theorem PtP.post {w w1 w' : World} {eb rb : Nat} {v : Value} {T : List (Tk × Int)} {p d : Int} {c0 c1 c2 c3 c4 : Value} (ho : Only (fun j => j = rb ∨ j = eb) w w1) (h : Bx w1 eb rb (ob v T) c0 c1 c2 c3 c4) (k : TkP w1 w' rb v T p d) : PtP w w' eb rb v T p d c0 c1 c2 c3 c4 :=
 ⟨k.rd, h.only k.only h.n1, ho.trans (k.only.mono fun j hj => .inl hj)⟩
theorem number_no {w : World} {rb eb : Nat} {v : Value} {T : List (Tk × Int)} {p d : Int} {c0 c1 c2 c3 c4 : Value} (h : IsRd w rb v T p d) (hx : Bx w eb rb (ob v T) c0 c1 c2 c3 c4) (n : Nat) (s : List UInt8) (ht : zXy T p = ⟨3, s, n⟩) (hs : ¬ s = []) :
 Calls Tryz.prog 196 #[.pointer (some ⟨rb, 0, none⟩), .pointer (some ⟨eb, 0, none⟩)] w fun e w' => e = .returned (.int .i64 7) ∧ PtP w w' eb rb v T p d c0 (.int .u64 (n : Int)) c2 c3 c4 := by
 have hA := xQj h
 rw [ht] at hA
 dsimp only [tokV] at hA
 have hfl := fun (k : Int) (s : ByteArray) (n z : Int) => fld2 k s n z
 have HR := Lib.hid h
 have HX := Lib.hid hx
 have HT := Lib.hid ht
 clear h hx ht
 go_enter Tryz.func196, Tryz.ntmps196
 go_wp2_with (go_at_call 195; ((with_reducible refine hA.mono ?_); (rintro e w1 ⟨rfl, hb1⟩); obtain ⟨e0, e1, e2, e3, e4, hel, hef⟩ := (HX.out.of hb1).e; have ef1 := hef 1))
 obtain ⟨W, hW⟩ : ∃ W, w1.setCell ⟨eb, 1, none⟩ (.int .u64 (n : Int)) = W := ⟨_, rfl⟩
 have hX1 : Bx W eb rb (ob v T) c0 (.int .u64 (n : Int)) c2 c3 c4 := ⟨by rw [← hW]; exact zXs 1 (by omega) _ (HX.out.of hb1).row, HX.out.n1, HX.out.n2⟩
 have hO1 : Only (fun j => j = eb) w1 W := by rw [← hW]; exact zXa _ _ _ _
 have hR1 : IsRd W rb v T p d := (HR.out.of hb1).only hO1 (fun e => HX.out.n1 e.symm) (fun j hj e => HX.out.n2 (by rw [hj, e]))
 have hO : Only (fun j => j = rb ∨ j = eb) w W := (zQd hb1).trans (hO1.mono fun j hj => .inr hj)
 clear hef e0 e1 e2 e3 e4 ef1 hel
 rw [hW]
 clear hW
 obtain ⟨e0, e1, e2, e3, e4, hel, hef⟩ := hX1.e
 have hN := yZn n W
 have hK : ∀ w2, Below W.heap.size W w2 → Calls Tryz.prog 202 #[.pointer (some ⟨rb, 0, none⟩), .agg #[.int .u8 3, .string ⟨#[]⟩, .int .u64 (n : Int), .int .i64 0]] w2 fun e w' => e = .returned (.int .i64 7) ∧ Below w2.heap.size w2 w' := fun w2 hb => take_m.1 (hR1.of hb) ⟨3, [], n⟩ (by rw [HT.out]; intro e; exact hs (congrArg Tk.t e))
 go_wp2_with (first | (go_at_call 184; ((with_reducible refine hN.mono ?_); (rintro e w2 ⟨rfl, hb2⟩))) | (go_at_call 202; ((with_reducible refine (hK _ hb2).mono ?_); (rintro e w3 ⟨rfl, hb3⟩))))
 go_ret
 have hB := tr hb2 hb3
 exact ⟨rfl, hR1.of hB, hX1.of hB, hO.trans (zQd hB)⟩
theorem number_yes {w : World} {rb eb : Nat} {v : Value} {T : List (Tk × Int)} {p d : Int} {c0 c1 c2 c3 c4 : Value} (h : IsRd w rb v T p d) (hx : Bx w eb rb (ob v T) c0 c1 c2 c3 c4) (n : Nat) (s : List UInt8) (ht : zXy T p = ⟨3, s, n⟩) (hs : s = []) (h0 : 0 ≤ p) (h1 : p < T.length) :
 Calls Tryz.prog 196 #[.pointer (some ⟨rb, 0, none⟩), .pointer (some ⟨eb, 0, none⟩)] w fun e w' => e = .returned (.int .i64 0) ∧ PtP w w' eb rb v T (p + 1) d c0 (.int .u64 (n : Int)) c2 c3 c4 := by
 subst hs
 have hA := xQj h
 rw [ht] at hA
 dsimp only [tokV] at hA
 have hfl := fun (k : Int) (s : ByteArray) (n z : Int) => fld2 k s n z
 have HR := Lib.hid h
 have HX := Lib.hid hx
 have HT := Lib.hid ht
 clear h hx ht
 go_enter Tryz.func196, Tryz.ntmps196
 go_wp2_with (go_at_call 195; ((with_reducible refine hA.mono ?_); (rintro e w1 ⟨rfl, hb1⟩); obtain ⟨e0, e1, e2, e3, e4, hel, hef⟩ := (HX.out.of hb1).e; have ef1 := hef 1))
 obtain ⟨W, hW⟩ : ∃ W, w1.setCell ⟨eb, 1, none⟩ (.int .u64 (n : Int)) = W := ⟨_, rfl⟩
 have hX1 : Bx W eb rb (ob v T) c0 (.int .u64 (n : Int)) c2 c3 c4 := ⟨by rw [← hW]; exact zXs 1 (by omega) _ (HX.out.of hb1).row, HX.out.n1, HX.out.n2⟩
 have hO1 : Only (fun j => j = eb) w1 W := by rw [← hW]; exact zXa _ _ _ _
 have hR1 : IsRd W rb v T p d := (HR.out.of hb1).only hO1 (fun e => HX.out.n1 e.symm) (fun j hj e => HX.out.n2 (by rw [hj, e]))
 have hO : Only (fun j => j = rb ∨ j = eb) w W := (zQd hb1).trans (hO1.mono fun j hj => .inr hj)
 clear hef e0 e1 e2 e3 e4 ef1 hel
 rw [hW]
 clear hW
 obtain ⟨e0, e1, e2, e3, e4, hel, hef⟩ := hX1.e
 have hN := yZn n W
 have hK : ∀ w2, Below W.heap.size W w2 → Calls Tryz.prog 202 #[.pointer (some ⟨rb, 0, none⟩), .agg #[.int .u8 3, .string ⟨#[]⟩, .int .u64 (n : Int), .int .i64 0]] w2 fun e w' => e = .returned (.int .i64 0) ∧ TkP w2 w' rb v T (p + 1) d := fun w2 hb => take_m.2 (hR1.of hb) ⟨3, [], n⟩ HT.out h0 h1
 go_wp2_with (first | (go_at_call 184; ((with_reducible refine hN.mono ?_); (rintro e w2 ⟨rfl, hb2⟩))) | (go_at_call 202; ((with_reducible refine (hK _ hb2).mono ?_); (rintro e w3 ⟨rfl, hP⟩))))
 go_ret
 exact ⟨rfl, PtP.post (hO.trans (zQd hb2)) (hX1.of hb2) hP⟩
theorem xZr {w : World} {rb eb : Nat} {v : Value} {T : List (Tk × Int)} {p d : Int} {c0 c1 c2 c3 c4 : Value} (h : IsRd w rb v T p d) (hx : Bx w eb rb (ob v T) c0 c1 c2 c3 c4) (hT : Tb w) (hG : ¬ GB eb) (t : Tk) (ht : zXy T p = t) (hn : zJf t = false) :
 Calls Tryz.prog 198 #[.pointer (some ⟨rb, 0, none⟩), .pointer (some ⟨eb, 0, none⟩)] w fun e w' => e = .returned (.int .i64 7) ∧ PtP w w' eb rb v T p d c0 c1 (.string (str t.t)) c3 c4 := by
 have hA := xQj h
 rw [ht] at hA
 dsimp only [tokV] at hA
 have hfl := fld1 t.k (str t.t) t.n 0
 have HR := Lib.hid h
 have HX := Lib.hid hx
 have HT := Lib.hid ht
 clear h hx ht
 go_enter Tryz.func198, Tryz.ntmps198
 go_wp2_with (go_at_call 195; ((with_reducible refine hA.mono ?_); (rintro e w1 ⟨rfl, hb1⟩); obtain ⟨e0, e1, e2, e3, e4, hel, hef⟩ := (HX.out.of hb1).e; have ef1 := hef 2))
 obtain ⟨W, hW⟩ : ∃ W, w1.setCell ⟨eb, 2, none⟩ (.string (str t.t)) = W := ⟨_, rfl⟩
 have hX1 : Bx W eb rb (ob v T) c0 c1 (.string (str t.t)) c3 c4 := ⟨by rw [← hW]; exact zXs 2 (by omega) _ (HX.out.of hb1).row, HX.out.n1, HX.out.n2⟩
 have hO1 : Only (fun j => j = eb) w1 W := by rw [← hW]; exact zXa _ _ _ _
 have hR1 : IsRd W rb v T p d := (HR.out.of hb1).only hO1 (fun e => HX.out.n1 e.symm) (fun j hj e => HX.out.n2 (by rw [hj, e]))
 have hO : Only (fun j => j = rb ∨ j = eb) w W := (zQd hb1).trans (hO1.mono fun j hj => .inr hj)
 have hT1 : Tb W := (hT.of hb1).only hO1 (fun j hj e => hG (by rw [← e]; exact hj))
 clear hef e0 e1 e2 e3 e4 ef1 hel
 rw [hW]
 clear hW
 obtain ⟨e0, e1, e2, e3, e4, hel, hef⟩ := hX1.e
 have hN := yXj t.t W hT1
 cases hb : nmdB t.t with
 | false =>
  rw [hb] at hN
  clear hb hn
  go_wp2_with (go_at_call 56; ((with_reducible refine hN.mono ?_); (rintro e w2 ⟨rfl, hb2⟩)))
  go_ret
  exact ⟨rfl, hR1.of hb2, hX1.of hb2, hO.trans (zQd hb2)⟩
 | true =>
  rw [hb] at hN
  have hK : ∀ w2, Below W.heap.size W w2 → Calls Tryz.prog 202 #[.pointer (some ⟨rb, 0, none⟩), .agg #[.int .u8 1, .string (str t.t), .int .u64 0, .int .i64 0]] w2 fun e w' => e = .returned (.int .i64 7) ∧ Below w2.heap.size w2 w' := fun w2 hb2 => take_m.1 (hR1.of hb2) ⟨1, t.t, 0⟩ (by
   rw [HT.out]; intro e; rw [e] at hn
   have : zJf (nmT t.t) = true := by simp [zJf, nmT, hb]
   rw [show (⟨1, t.t, 0⟩ : Tk) = nmT t.t from rfl, this] at hn; cases hn)
  have hM := yZd (str t.t)
  clear hb hn
  go_wp2_with (first | (go_at_call 56; ((with_reducible refine hN.mono ?_); (rintro e w2 ⟨rfl, hb2⟩); obtain ⟨hc2, hf2⟩ := zKn hb2; have hz2 := Nat.lt_of_lt_of_le hel hb2.size)) | (go_at_call 185; ((with_reducible refine (hM _).mono ?_); (rintro e w3 ⟨rfl, hb3⟩); have hB3 := tr hb2 hb3)) | (go_at_call 202; ((with_reducible refine (hK _ hB3).mono ?_); (rintro e w4 ⟨rfl, hb4⟩))))
  go_ret
  have hB := tr hB3 hb4
  exact ⟨rfl, hR1.of hB, hX1.of hB, hO.trans (zQd hB)⟩
theorem xQt {w : World} {rb eb : Nat} {v : Value} {T : List (Tk × Int)} {p d : Int} {c0 c1 c2 c3 c4 : Value} (h : IsRd w rb v T p d) (hx : Bx w eb rb (ob v T) c0 c1 c2 c3 c4) (hT : Tb w) (hG : ¬ GB eb) (t : Tk) (ht : zXy T p = t) (hn : zJf t = true) (h0 : 0 ≤ p) (h1 : p < T.length) :
 Calls Tryz.prog 198 #[.pointer (some ⟨rb, 0, none⟩), .pointer (some ⟨eb, 0, none⟩)] w fun e w' => e = .returned (.int .i64 0) ∧ PtP w w' eb rb v T (p + 1) d c0 c1 (.string (str t.t)) c3 c4 := by
 have hA := xQj h
 rw [ht] at hA
 dsimp only [tokV] at hA
 have hfl := fld1 t.k (str t.t) t.n 0
 have HR := Lib.hid h
 have HX := Lib.hid hx
 have HT := Lib.hid ht
 clear h hx ht
 go_enter Tryz.func198, Tryz.ntmps198
 go_wp2_with (go_at_call 195; ((with_reducible refine hA.mono ?_); (rintro e w1 ⟨rfl, hb1⟩); obtain ⟨e0, e1, e2, e3, e4, hel, hef⟩ := (HX.out.of hb1).e; have ef1 := hef 2))
 obtain ⟨W, hW⟩ : ∃ W, w1.setCell ⟨eb, 2, none⟩ (.string (str t.t)) = W := ⟨_, rfl⟩
 have hX1 : Bx W eb rb (ob v T) c0 c1 (.string (str t.t)) c3 c4 := ⟨by rw [← hW]; exact zXs 2 (by omega) _ (HX.out.of hb1).row, HX.out.n1, HX.out.n2⟩
 have hO1 : Only (fun j => j = eb) w1 W := by rw [← hW]; exact zXa _ _ _ _
 have hR1 : IsRd W rb v T p d := (HR.out.of hb1).only hO1 (fun e => HX.out.n1 e.symm) (fun j hj e => HX.out.n2 (by rw [hj, e]))
 have hO : Only (fun j => j = rb ∨ j = eb) w W := (zQd hb1).trans (hO1.mono fun j hj => .inr hj)
 have hT1 : Tb W := (hT.of hb1).only hO1 (fun j hj e => hG (by rw [← e]; exact hj))
 clear hef e0 e1 e2 e3 e4 ef1 hel
 rw [hW]
 clear hW
 obtain ⟨e0, e1, e2, e3, e4, hel, hef⟩ := hX1.e
 have hN := yXj t.t W hT1
 obtain ⟨he, hb⟩ := xZq hn
 rw [hb] at hN
 have hK : ∀ w2, Below W.heap.size W w2 → Calls Tryz.prog 202 #[.pointer (some ⟨rb, 0, none⟩), .agg #[.int .u8 1, .string (str t.t), .int .u64 0, .int .i64 0]] w2 fun e w' => e = .returned (.int .i64 0) ∧ TkP w2 w' rb v T (p + 1) d := fun w2 hb2 => take_m.2 (hR1.of hb2) (nmT t.t) (by rw [HT.out]; exact he) h0 h1
 have hM := yZd (str t.t)
 clear hb hn he
 go_wp2_with (first | (go_at_call 56; ((with_reducible refine hN.mono ?_); (rintro e w2 ⟨rfl, hb2⟩); obtain ⟨hc2, hf2⟩ := zKn hb2; have hz2 := Nat.lt_of_lt_of_le hel hb2.size)) | (go_at_call 185; ((with_reducible refine (hM _).mono ?_); (rintro e w3 ⟨rfl, hb3⟩); have hB3 := tr hb2 hb3)) | (go_at_call 202; ((with_reducible refine (hK _ hB3).mono ?_); (rintro e w4 ⟨rfl, hP⟩))))
 go_ret
 exact ⟨rfl, PtP.post (hO.trans (zQd hB3)) (hX1.of hB3) hP⟩
theorem opS_inj {a b : Nat} (h : opS a = opS b) (hn : opS a ≠ []) : a = b := by
 have h1 := yJw a hn
 have h2 := yJw b (by rw [← h]; exact hn)
 rw [h] at h1
 exact h1.symm.trans h2
theorem op_no {w : World} {rb : Nat} {eb : Option Addr} {v : Value} {T : List (Tk × Int)} {p d : Int} (h : IsRd w rb v T p d) (hT : Tb w) (hno : ∀ j, opS j ≠ [] → ¬ zXy T p = sg (opS j)) :
 Calls Tryz.prog 200 #[.pointer (some ⟨rb, 0, none⟩), .pointer eb] w fun e w' => e = .returned (.int .i64 7) ∧ Below w.heap.size w w' := by
 have HN := Lib.hid hno
 clear hno
 obtain ⟨V, hVd, hV⟩ : ∃ V : Nat → ByteArray, (∀ j, V j = str (opS j)) ∧ ∀ j < 15, w.cell? ⟨9, j, none⟩ = some (.string (V j)) := ⟨fun j => str (opS j), fun _ => rfl, hT.esg⟩
 have HD := Lib.hid hVd
 clear hVd hT
 obtain ⟨cs, hl, hg, hc⟩ := yJh V 15
 have hR0 : w.rangeAt 9 0 cs := fun j v h => by obtain ⟨h1, rfl⟩ := hc j v h; rw [Nat.zero_add]; exact hV j h1
 have hI0 : (Tryz.prog.info? 256).map (·.size) = some cs.length := by rw [hl]; kernel_rfl
 have HR0 := Lib.hid hR0
 have HI0 := Lib.hid hI0
 clear hR0 hI0
 have HG := Lib.hid hg
 clear hV hg hc hl
 have HR := Lib.hid h
 clear h
 go_enter Tryz.func200, Tryz.ntmps200
 go_wp2_with (with_reducible refine wpList_load_mid rfl _ _ rfl 9 0 rfl cs _ HR0.out Tryz.underlying256 rfl HI0.out ?_)
 go_loopw [8] (fun i wr => ∃ k : Nat, k ≤ 15 ∧ i = .int .i64 k ∧ Below w.heap.size w wr) (fun i _ => 15 - (intOf i).toNat)
 case atStart => exact ⟨0, by omega, rfl, Below.refl _ _⟩
 case round =>
  obtain ⟨k, hk, rfl, hB⟩ := hrel
  by_cases hlt : k < 15
  ·have hx := fun W => xJr 256 15 cs k (V k) W Tryz.underlying256 hlt (HG.out k hlt)
   by_cases he : opS k = []
   ·have hem : (V k).toList.isEmpty = true := by rw [HD.out k, strE, he]; rfl
    clear he
    go_wp2
    go_roundw
    case rel => exact ⟨k + 1, by omega, by go_num, hB⟩
    case measure => simp [intOf]; omega
   ·have hem : (V k).toList.isEmpty = false := by rw [HD.out k, strE, decide_eq_false he]
    have hS : ∀ w, Calls Tryz.prog 186 #[.string (V k)] w fun e w' => e = .returned (.agg #[.int .u8 4, .string (V k), .int .u64 0, .int .i64 0]) ∧ Below w.heap.size w w' := fun w => zJp (V k) w
    have hK : ∀ w2, Below wr.heap.size wr w2 → Calls Tryz.prog 202 #[.pointer (some ⟨rb, 0, none⟩), .agg #[.int .u8 4, .string (V k), .int .u64 0, .int .i64 0]] w2 fun e w' => e = .returned (.int .i64 7) ∧ Below w2.heap.size w2 w' := fun w2 hb => by
     have := take_m.1 ((HR.out.of hB).of hb) (sg (opS k)) (HN.out k he)
     unfold tokV at this
     rw [show (sg (opS k)).t = opS k from rfl, ← HD.out k] at this
     exact this
    clear he
    go_wp2_with (first | (go_at_call 186; ((with_reducible refine (hS _).mono ?_); (rintro e w2 ⟨rfl, hb2⟩))) | (go_at_call 202; ((with_reducible refine (hK _ hb2).mono ?_); (rintro e w3 ⟨rfl, hb3⟩))))
    go_roundw
    case rel => exact ⟨k + 1, by omega, by go_num, tr hB (tr hb2 hb3)⟩
    case measure => simp [intOf]; omega
  ·obtain rfl : k = 15 := by omega
   go_wp2
   go_ret
   exact ⟨rfl, hB⟩
theorem op_yes {w : World} {rb eb : Nat} {v : Value} {T : List (Tk × Int)} {p d : Int} {c0 c1 c2 c3 c4 : Value} (h : IsRd w rb v T p d) (hx : Bx w eb rb (ob v T) c0 c1 c2 c3 c4) (hT : Tb w) (o : Nat) (ho : opS o ≠ []) (ht : zXy T p = sg (opS o)) (h0 : 0 ≤ p) (h1 : p < T.length) :
 Calls Tryz.prog 200 #[.pointer (some ⟨rb, 0, none⟩), .pointer (some ⟨eb, 0, none⟩)] w fun e w' => e = .returned (.int .i64 0) ∧ PtP w w' eb rb v T (p + 1) d c0 c1 c2 (.int .u8 (o : Int)) c4 := by
 have ho15 : o < 15 := by
  rcases Nat.lt_or_ge o 15 with h | h
  ·exact h
  ·exact absurd (xZn h) ho
 have HN : Hid (∀ k, k < o → opS k ≠ [] → ¬ zXy T p = sg (opS k)) := Lib.hid fun k hk hk0 e => by
  rw [ht] at e
  have := opS_inj (congrArg Tk.t e : opS o = opS k) ho
  omega
 have HO := Lib.hid ho
 have HTT := Lib.hid ht
 have HX := Lib.hid hx
 clear ho ht hx
 obtain ⟨V, hVd, hV⟩ : ∃ V : Nat → ByteArray, (∀ j, V j = str (opS j)) ∧ ∀ j < 15, w.cell? ⟨9, j, none⟩ = some (.string (V j)) := ⟨fun j => str (opS j), fun _ => rfl, hT.esg⟩
 have HD := Lib.hid hVd
 clear hVd hT
 obtain ⟨cs, hl, hg, hc⟩ := yJh V 15
 have hR0 : w.rangeAt 9 0 cs := fun j v h => by obtain ⟨h1, rfl⟩ := hc j v h; rw [Nat.zero_add]; exact hV j h1
 have hI0 : (Tryz.prog.info? 256).map (·.size) = some cs.length := by rw [hl]; kernel_rfl
 have HR0 := Lib.hid hR0
 have HI0 := Lib.hid hI0
 clear hR0 hI0
 have HG := Lib.hid hg
 clear hV hg hc hl
 have HR := Lib.hid h
 clear h
 go_enter Tryz.func200, Tryz.ntmps200
 go_wp2_with (with_reducible refine wpList_load_mid rfl _ _ rfl 9 0 rfl cs _ HR0.out Tryz.underlying256 rfl HI0.out ?_)
 go_loopw [8] (fun i wr => ∃ k : Nat, k ≤ o ∧ i = .int .i64 k ∧ Below w.heap.size w wr) (fun i _ => o + 1 - (intOf i).toNat)
 case atStart => exact ⟨0, by omega, rfl, Below.refl _ _⟩
 case round =>
  obtain ⟨k, hk, rfl, hB⟩ := hrel
  have hlt : k < 15 := by omega
  have hx := fun W => xJr 256 15 cs k (V k) W Tryz.underlying256 hlt (HG.out k hlt)
  by_cases hko : k < o
  ·by_cases he : opS k = []
   ·have hem : (V k).toList.isEmpty = true := by rw [HD.out k, strE, he]; rfl
    clear he
    go_wp2
    go_roundw
    case rel => exact ⟨k + 1, by omega, by go_num, hB⟩
    case measure => simp [intOf]; omega
   ·have hem : (V k).toList.isEmpty = false := by rw [HD.out k, strE, decide_eq_false he]
    have hS : ∀ w, Calls Tryz.prog 186 #[.string (V k)] w fun e w' => e = .returned (.agg #[.int .u8 4, .string (V k), .int .u64 0, .int .i64 0]) ∧ Below w.heap.size w w' := fun w => zJp (V k) w
    have hK : ∀ w2, Below wr.heap.size wr w2 → Calls Tryz.prog 202 #[.pointer (some ⟨rb, 0, none⟩), .agg #[.int .u8 4, .string (V k), .int .u64 0, .int .i64 0]] w2 fun e w' => e = .returned (.int .i64 7) ∧ Below w2.heap.size w2 w' := fun w2 hb => by
     have := take_m.1 ((HR.out.of hB).of hb) (sg (opS k)) (HN.out k hko he)
     unfold tokV at this
     rw [show (sg (opS k)).t = opS k from rfl, ← HD.out k] at this
     exact this
    clear he
    go_wp2_with (first | (go_at_call 186; ((with_reducible refine (hS _).mono ?_); (rintro e w2 ⟨rfl, hb2⟩))) | (go_at_call 202; ((with_reducible refine (hK _ hb2).mono ?_); (rintro e w3 ⟨rfl, hb3⟩))))
    go_roundw
    case rel => exact ⟨k + 1, by omega, by go_num, tr hB (tr hb2 hb3)⟩
    case measure => simp [intOf]; omega
  ·obtain rfl : k = o := by omega
   have hem : (V k).toList.isEmpty = false := by rw [HD.out k, strE, decide_eq_false HO.out]
   have hw8 : IntKind.u8.wrap (k : Int) = (k : Int) := by rw [IntKind.wrap_u8]; omega
   have hS : ∀ w, Calls Tryz.prog 186 #[.string (V k)] w fun e w' => e = .returned (.agg #[.int .u8 4, .string (V k), .int .u64 0, .int .i64 0]) ∧ Below w.heap.size w w' := fun w => zJp (V k) w
   have hK : ∀ w2, Below wr.heap.size wr w2 → Calls Tryz.prog 202 #[.pointer (some ⟨rb, 0, none⟩), .agg #[.int .u8 4, .string (V k), .int .u64 0, .int .i64 0]] w2 fun e w' => e = .returned (.int .i64 0) ∧ TkP w2 w' rb v T (p + 1) d := fun w2 hb => by
    have := take_m.2 ((HR.out.of hB).of hb) (sg (opS k)) HTT.out h0 h1
    unfold tokV at this
    rw [show (sg (opS k)).t = opS k from rfl, ← HD.out k] at this
    exact this
   go_wp2_with (first | (go_at_call 186; ((with_reducible refine (hS _).mono ?_); (rintro e w2 ⟨rfl, hb2⟩))) | (go_at_call 202; ((with_reducible refine (hK _ hb2).mono ?_); (rintro e w3 ⟨rfl, hP⟩); have hX3 := ((HX.out.of hB).of hb2).only hP.only HX.out.n1; obtain ⟨e0, e1, e2, e3, e4, hel, hef⟩ := hX3.e; have ef3 := hef 3)))
   go_ret
   have hO1 := zXa w3 eb 3 (.int .u8 (k : Int))
   exact ⟨rfl, hP.rd.only hO1 (fun e => HX.out.n1 e.symm) (fun j hj e => HX.out.n2 (by rw [hj, e])), ⟨zXs 3 (by omega) _ hX3.row, HX.out.n1, HX.out.n2⟩, ((zQd (tr hB hb2)).trans (hP.only.mono fun j hj => .inl hj)).trans (hO1.mono fun j hj => .inr hj)⟩
end Go.Proofs.YtfbjljcmmbdhkaaGreatDoor
