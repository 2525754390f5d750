/- Contracts of tell, whatever the expression, and of Tell. -/
import Derived.Test.YtnblnmehfhkfmaaGreatDoorEe
namespace Go.Proofs.YtnblnmehfhkfmaaGreatDoor
open Go.ChangeShapes Go.WideShapes Go.ChangeAt Go.RowKit
set_option linter.unusedVariables false
theorem str_nil : str [] = ⟨#[]⟩ := rfl
theorem tell_any : ∀ d, TellIH d := by
  intro d
  induction d with
  | zero => intro x v l T B w h; simp [mayB] at h
  | succ d ih =>
    intro x v l T B w hm hE ho hB hl hES hgB
    cases hE with
    | @mk k n s o kids ma cap h256 hkl hk =>
      rw [mayB, Bool.and_eq_true] at hm
      obtain ⟨hf, ha⟩ := hm
      rw [Xp.nodes] at hl
      rcases fit_k hf with rfl | rfl | rfl | rfl | rfl
      · obtain ⟨rfl, rfl, hm0⟩ := fit1 hf
        obtain rfl : kids = [] := List.length_eq_zero_iff.1 hm0
        exact tell_num n ma cap B l T w ho hB (by omega)
      · obtain ⟨rfl, hn, rfl, hm0⟩ := fit2 hf
        obtain rfl : kids = [] := List.length_eq_zero_iff.1 hm0
        exact tell_var s ma cap B l T w ho hB (by omega)
      · obtain ⟨rfl, rfl, hoo, hm0⟩ := fit3 hf
        obtain ⟨a, b, rfl⟩ : ∃ a b, kids = [a, b] := by
          match kids, hm0 with
          | [a, b], _ => exact ⟨a, b, rfl⟩
        simp only [List.all_cons, List.all_nil, Bool.and_true, Bool.and_eq_true] at ha
        obtain ⟨blk, off, rfl⟩ := kids_some hk (by simp)
        obtain ⟨m0, c0, k0⟩ := kidIn hk 0 (by simp)
        obtain ⟨m1, c1, k1⟩ := kidIn hk 1 (by simp)
        simp only [Nat.zero_mul, Nat.add_zero, Nat.one_mul, List.getElem_cons_zero, List.getElem_cons_succ] at k0 k1
        simp only [nodesL] at hl
        exact tell_3 d ih a b ha.1 ha.2 o h256 blk off cap m0 c0 m1 c1 B l T w ho hB k0 k1 (by omega) hES hgB
      · obtain ⟨rfl, hn, rfl, hm0⟩ := fit4 hf
        obtain rfl : kids = [] := List.length_eq_zero_iff.1 hm0
        exact tell_4 s ma cap B l T w ho hB (by omega)
      · obtain ⟨rfl, hn, rfl, hm0⟩ := fit5 hf
        obtain ⟨a, rfl⟩ : ∃ a, kids = [a] := by
          match kids, hm0 with
          | [a], _ => exact ⟨a, rfl⟩
        simp only [List.all_cons, List.all_nil, Bool.and_true] at ha
        obtain ⟨blk, off, rfl⟩ := kids_some hk (by simp)
        obtain ⟨m0, c0, k0⟩ := kidIn hk 0 (by simp)
        simp only [Nat.zero_mul, Nat.add_zero, List.getElem_cons_zero] at k0
        simp only [nodesL] at hl
        exact tell_5 d ih a ha s blk off cap m0 c0 B l T w ho hB k0 (by omega) hES hgB
/-- An expression that lies below a world's end. -/
def IsB (w : World) (v : Value) (e : Xp) : Prop := IsE (fun b => b < w.heap.size) w v e
theorem IsB.of {w w' : World} {v : Value} {e : Xp} (h : IsB w v e) (hb : Below w.heap.size w w') : IsB w' v e := (h.mono (fun b hb' => Nat.lt_of_lt_of_le hb' hb.size)).of hb
theorem es_lt {w : World} (h : ESignsOk w) : 1 < w.heap.size := World.block_lt_of_cell? w _ (h 0 (by omega))
set_option maxRecDepth 100000 in
set_option maxHeartbeats 2000000 in
theorem Tell_no (e : Xp) (v : Value) (w : World) (hE : IsB w v e) (hT : Tb w) (hm : mayB 40 e = false) :
    Calls Tryz.prog 10 #[v] w fun r w' => r = .returned (.tuple #[.slice none 0 0, .int .i64 2]) ∧ Below w.heap.size w w' := by
  have hC : ∀ o, Calls Tryz.prog 9 #[v] (w.alloc o) fun r w' => r = .returned (.int .i64 2) ∧ Below (w.alloc o).heap.size (w.alloc o) w' := fun o => by
    have := check_any _ e v (w.alloc o) (hE.of (aB (Below.refl _ _) _)) (hT.alloc _)
    rw [hm] at this
    exact this
  cases hE with
  | @mk k n s o kids ma cap h256 hkl hk =>
    clear hk hm
    go_enter Tryz.func10, Tryz.ntmps10
    go_wp2_with (go_at_call 9; ((with_reducible refine (hC _).mono ?_); (rintro r w1 ⟨rfl, hb⟩)))
    go_ret2
    exact ⟨rfl, tr (aB (Below.refl _ _) _) hb⟩
set_option maxRecDepth 100000 in
set_option maxHeartbeats 2000000 in
theorem Tell_yes (e : Xp) (v : Value) (w : World) (hE : IsB w v e) (hT : Tb w) (hm : mayB 40 e = true) (hn : e.nodes ≤ 100000) :
    Calls Tryz.prog 10 #[v] w fun r w' => (∃ l, r = .returned (.tuple #[l, .int .i64 0]) ∧ w'.ownsRow w.heap.size 39 4 l (zs (tellF 40 e)).length (cellsZ (zs (tellF 40 e)))) ∧ Below w.heap.size w w' := by
  have hC : ∀ o, Calls Tryz.prog 9 #[v] (w.alloc o) fun r w' => r = .returned (.int .i64 0) ∧ Below (w.alloc o).heap.size (w.alloc o) w' := fun o => by
    have := check_any _ e v (w.alloc o) (hE.of (aB (Below.refl _ _) _)) (hT.alloc _)
    rw [hm] at this
    exact this
  have hL : ∀ w1, Below w.heap.size w w1 → Calls Tryz.prog 22 #[.slice none 0 0, v] w1 fun r w' => ∃ l', r = .returned l' ∧ Tl w1.heap.size w1 w' (.slice none 0 0) l' (zs (tellF 40 e)) := fun w1 hb =>
    tell_any 40 e v (.slice none 0 0) [] w1.heap.size w1 hm (hE.of hb) (World.ownsRow_nil _ _ _ _) (Nat.le_refl _) (by simp only [List.length_nil]; omega) (hT.of hb).esg (es_lt (hT.of hb).esg)
  cases hE with
  | @mk k n s o kids ma cap h256 hkl hk =>
    clear hk
    go_enter Tryz.func10, Tryz.ntmps10
    go_wp2_with (first | (go_at_call 9; ((with_reducible refine (hC _).mono ?_); (rintro r w1 ⟨rfl, hb⟩); obtain ⟨hc, hf⟩ := bcell hb; have hz := hz1 hb; have hB1 : Below w.heap.size w w1 := tr (aB (Below.refl _ _) _) hb)) | (go_at_call 22; ((with_reducible refine (hL _ hB1).mono ?_); (rintro r w2 ⟨l2, rfl, hl2⟩))))
    go_ret2
    have hB2 : Below w.heap.size w w2 := tr hB1 (hl2.only.below (fun j hj => by cases hj) (Nat.le_refl _))
    exact ⟨⟨_, rfl, own_base hB1.size hl2.own⟩, hB2⟩
end Go.Proofs.YtnblnmehfhkfmaaGreatDoor
