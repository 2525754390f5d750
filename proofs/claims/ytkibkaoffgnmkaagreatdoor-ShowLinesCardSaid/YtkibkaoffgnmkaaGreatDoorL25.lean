/- Contract of a row's method param. -/
import Derived.Test.YtkibkaoffgnmkaaGreatDoorL24
namespace Go.Proofs.YtkibkaoffgnmkaaGreatDoor
set_option linter.unusedVariables false
set_option linter.unusedSimpArgs false
set_option maxRecDepth 100000
set_option maxHeartbeats 200000000
open Go.ChangeShapes Go.WideShapes Go.ChangeAt Go.RowKit
theorem sec_len (b : Bool) : (secT b).length ≤ 1 := by cases b <;> simp [secT]
theorem rparam_ed (nm : List UInt8) (buf sec : Bool) (B : Nat) (l : Value) (T : List (Tk × Int)) (w : World) (ho : w.ownsRow B 95 4 l T.length (cellsZ T)) (hB : B ≤ w.heap.size) (hl : T.length ≤ 999990) :
  Calls Tryz.prog 119 #[l, .agg #[.string (str nm), .bool buf, .bool sec, .bool true]] w fun r w' => ∃ l', r = .returned l' ∧ Tl B w w' l l' (T ++ zs ([wdT wEdit] ++ (secT sec ++ [nmT nm]))) := by
 obtain ⟨W, hW⟩ : ∃ W, w.alloc (.cells #[.string (str nm), .bool buf, .bool sec, .bool true] 49) = W := ⟨_, rfl⟩
 have hBw : Below w.heap.size w W := by rw [← hW]; exact aB (Below.refl _ _) _
 have hrW : rowG #[.string (str nm), .bool buf, .bool sec, .bool true] W w.heap.size := by rw [← hW]; exact rowG_at _ _ _ _ rfl
 have hn0 : l.ownBlock ≠ some w.heap.size := own_new ho (.inl (Nat.le_refl _))
 have hoW : W.ownsRow B 95 4 l T.length (cellsZ T) := own_of ho hBw
 have hBW : B ≤ W.heap.size := Nat.le_trans hB hBw.size
 have hwd := rword_any wEdit B l T W hoW hBW (by omega)
 rw [show str wEdit = { data := #[101, 100, 105, 116] } from rfl] at hwd
 have u0 : W.cell? ⟨w.heap.size, 0, none⟩ = some (.string (str nm)) := hrW.1 0 (by simp); have u1 : W.cell? ⟨w.heap.size, 1, none⟩ = some (.bool buf) := hrW.1 1 (by simp); have u2 : W.cell? ⟨w.heap.size, 2, none⟩ = some (.bool sec) := hrW.1 2 (by simp); have u3 : W.cell? ⟨w.heap.size, 3, none⟩ = some (.bool true) := hrW.1 3 (by simp)
 have hlW := hrW.2.2
 go_enter Tryz.func119, Tryz.ntmps119
 go_wp2_with (go_at_call 115; ((with_reducible refine hwd.mono ?_); (rintro e w1 ⟨l1, rfl, hT1⟩)))
 have hn1 : l1.ownBlock ≠ some w.heap.size := hT1.apart hlW hn0
 have hr1 : rowG #[.string (str nm), .bool buf, .bool sec, .bool true] w1 w.heap.size := rowG_only hrW hT1.only hn0
 have hBX : B ≤ w1.heap.size := Nat.le_trans hBW hT1.only.size
 have hBD : B ≤ w1.drew.heap.size := hBX
 have hoX : w1.drew.ownsRow B 95 4 l1 (T ++ zs [wdT wEdit]).length (cellsZ (T ++ zs [wdT wEdit])) := own_only hT1.own (od1 (S := fun _ => False)) (fun _ _ h => h)
 have hFi : ∀ w', Only (fun j => l1.ownBlock = some j) w1 w' → w'.cell? ⟨w.heap.size, 0, none⟩ = some (.string (str nm)) ∧ w'.cell? ⟨w.heap.size, 2, none⟩ = some (.bool sec) := fun w' h => ⟨(rowG_only hr1 h hn1).1 0 (by simp), (rowG_only hr1 h hn1).1 2 (by simp)⟩
 have hF0 : Only (fun j => l1.ownBlock = some j) w1 w1.drew := od1
 refine region_KN (fun w' => Only (fun j => l1.ownBlock = some j) w1 w') (by kernel_rfl) ?_
 have q : Pq [0, 1, 2, 4, 5] := trivial
 iterate 5
  refine tkN q rfl (by kernel_rfl) hF0 fun K hK => ?_
  replace q := q.tl
  apply Exists.intro
  refine ⟨Or.inl ⟨by kernel_rfl, fun w' hf => ?_⟩, ?_⟩
  ·obtain ⟨s0, s2⟩ := hFi _ hf
   go_simp
   try exact rfl
  go_simp
  refine hK _ ?_
  clear hK K
 refine wpAnyK_one (k := 3) (by kernel_rfl) ?_
 refine wpOp_step rfl (fun K hK => ?_)
 go_simp
 go_at_call 121
 with_reducible refine (rsecret_any sec B _ (T ++ zs [wdT wEdit]) _ hoX hBD (by simp only [List.length_append, zs_len, List.length_cons, List.length_nil]; omega)).mono ?_
 rintro e v1 ⟨l3, rfl, hT3⟩
 have hF3 := Only.trans hF0 hT3.only
 refine hK _ _ ⟨hF3, ?_⟩
 clear hK K
 refine wpAnyK_one (k := 6) (by kernel_rfl) ?_
 refine wpOp_step rfl (fun K hK => ?_)
 go_simp
 go_at_call 116
 with_reducible refine (rname_any nm B _ ((T ++ zs [wdT wEdit]) ++ zs (secT sec)) _ hT3.own (Nat.le_trans hBX hF3.size) (by have := sec_len sec; simp only [List.length_append, zs_len, List.length_cons, List.length_nil]; omega)).mono ?_
 rintro e v2 ⟨l6, rfl, hT6⟩
 have hT36 := hT3.trans hT6
 have hF6 := Only.trans hF0 hT36.only
 refine hK _ _ ⟨hF6, ?_⟩
 clear hK K
 refine wpAnyK_one (k := 7) (by kernel_rfl) ?_
 refine wpOp_step rfl (fun K hK => ?_)
 go_simp
 refine hK _ _ ⟨hF6, ?_⟩
 clear hK K
 refine wpAnyK_done (by kernel_rfl) ⟨rfl, ?_⟩
 go_wp2
 go_ret
 have hz := (hT1.trans (tl_fin (Below.refl _ _) hF0 hT36)).pre hBw
 rw [show (T ++ zs [wdT wEdit]) ++ zs (secT sec) ++ zs [nmT nm] = T ++ zs ([wdT wEdit] ++ (secT sec ++ [nmT nm])) from by simp [zs]] at hz
 exact ⟨_, rfl, hz⟩
theorem rparam_vw (nm : List UInt8) (sec : Bool) (B : Nat) (l : Value) (T : List (Tk × Int)) (w : World) (ho : w.ownsRow B 95 4 l T.length (cellsZ T)) (hB : B ≤ w.heap.size) (hl : T.length ≤ 999990) :
  Calls Tryz.prog 119 #[l, .agg #[.string (str nm), .bool true, .bool sec, .bool false]] w fun r w' => ∃ l', r = .returned l' ∧ Tl B w w' l l' (T ++ zs ([wdT wView] ++ (secT sec ++ [nmT nm]))) := by
 obtain ⟨W, hW⟩ : ∃ W, w.alloc (.cells #[.string (str nm), .bool true, .bool sec, .bool false] 49) = W := ⟨_, rfl⟩
 have hBw : Below w.heap.size w W := by rw [← hW]; exact aB (Below.refl _ _) _
 have hrW : rowG #[.string (str nm), .bool true, .bool sec, .bool false] W w.heap.size := by rw [← hW]; exact rowG_at _ _ _ _ rfl
 have hn0 : l.ownBlock ≠ some w.heap.size := own_new ho (.inl (Nat.le_refl _))
 have hoW : W.ownsRow B 95 4 l T.length (cellsZ T) := own_of ho hBw
 have hBW : B ≤ W.heap.size := Nat.le_trans hB hBw.size
 have hwd := rword_any wView B l T W hoW hBW (by omega)
 rw [show str wView = { data := #[118, 105, 101, 119] } from rfl] at hwd
 have u0 : W.cell? ⟨w.heap.size, 0, none⟩ = some (.string (str nm)) := hrW.1 0 (by simp); have u1 : W.cell? ⟨w.heap.size, 1, none⟩ = some (.bool true) := hrW.1 1 (by simp); have u2 : W.cell? ⟨w.heap.size, 2, none⟩ = some (.bool sec) := hrW.1 2 (by simp); have u3 : W.cell? ⟨w.heap.size, 3, none⟩ = some (.bool false) := hrW.1 3 (by simp)
 have hlW := hrW.2.2
 go_enter Tryz.func119, Tryz.ntmps119
 go_wp2_with (go_at_call 115; ((with_reducible refine hwd.mono ?_); (rintro e w1 ⟨l1, rfl, hT1⟩)))
 have hn1 : l1.ownBlock ≠ some w.heap.size := hT1.apart hlW hn0
 have hr1 : rowG #[.string (str nm), .bool true, .bool sec, .bool false] w1 w.heap.size := rowG_only hrW hT1.only hn0
 have hBX : B ≤ w1.heap.size := Nat.le_trans hBW hT1.only.size
 have hBD : B ≤ w1.drew.heap.size := hBX
 have hoX : w1.drew.ownsRow B 95 4 l1 (T ++ zs [wdT wView]).length (cellsZ (T ++ zs [wdT wView])) := own_only hT1.own (od1 (S := fun _ => False)) (fun _ _ h => h)
 have hFi : ∀ w', Only (fun j => l1.ownBlock = some j) w1 w' → w'.cell? ⟨w.heap.size, 0, none⟩ = some (.string (str nm)) ∧ w'.cell? ⟨w.heap.size, 2, none⟩ = some (.bool sec) := fun w' h => ⟨(rowG_only hr1 h hn1).1 0 (by simp), (rowG_only hr1 h hn1).1 2 (by simp)⟩
 have hF0 : Only (fun j => l1.ownBlock = some j) w1 w1.drew := od1
 refine region_KN (fun w' => Only (fun j => l1.ownBlock = some j) w1 w') (by kernel_rfl) ?_
 have q : Pq [0, 1, 2, 4, 5] := trivial
 iterate 5
  refine tkN q rfl (by kernel_rfl) hF0 fun K hK => ?_
  replace q := q.tl
  apply Exists.intro
  refine ⟨Or.inl ⟨by kernel_rfl, fun w' hf => ?_⟩, ?_⟩
  ·obtain ⟨s0, s2⟩ := hFi _ hf
   go_simp
   try exact rfl
  go_simp
  refine hK _ ?_
  clear hK K
 refine wpAnyK_one (k := 3) (by kernel_rfl) ?_
 refine wpOp_step rfl (fun K hK => ?_)
 go_simp
 go_at_call 121
 with_reducible refine (rsecret_any sec B _ (T ++ zs [wdT wView]) _ hoX hBD (by simp only [List.length_append, zs_len, List.length_cons, List.length_nil]; omega)).mono ?_
 rintro e v1 ⟨l3, rfl, hT3⟩
 have hF3 := Only.trans hF0 hT3.only
 refine hK _ _ ⟨hF3, ?_⟩
 clear hK K
 refine wpAnyK_one (k := 6) (by kernel_rfl) ?_
 refine wpOp_step rfl (fun K hK => ?_)
 go_simp
 go_at_call 116
 with_reducible refine (rname_any nm B _ ((T ++ zs [wdT wView]) ++ zs (secT sec)) _ hT3.own (Nat.le_trans hBX hF3.size) (by have := sec_len sec; simp only [List.length_append, zs_len, List.length_cons, List.length_nil]; omega)).mono ?_
 rintro e v2 ⟨l6, rfl, hT6⟩
 have hT36 := hT3.trans hT6
 have hF6 := Only.trans hF0 hT36.only
 refine hK _ _ ⟨hF6, ?_⟩
 clear hK K
 refine wpAnyK_one (k := 7) (by kernel_rfl) ?_
 refine wpOp_step rfl (fun K hK => ?_)
 go_simp
 refine hK _ _ ⟨hF6, ?_⟩
 clear hK K
 refine wpAnyK_done (by kernel_rfl) ⟨rfl, ?_⟩
 go_wp2
 go_ret
 have hz := (hT1.trans (tl_fin (Below.refl _ _) hF0 hT36)).pre hBw
 rw [show (T ++ zs [wdT wView]) ++ zs (secT sec) ++ zs [nmT nm] = T ++ zs ([wdT wView] ++ (secT sec ++ [nmT nm])) from by simp [zs]] at hz
 exact ⟨_, rfl, hz⟩
theorem rparam_sc (nm : List UInt8) (B : Nat) (l : Value) (T : List (Tk × Int)) (w : World) (ho : w.ownsRow B 95 4 l T.length (cellsZ T)) (hB : B ≤ w.heap.size) (hl : T.length ≤ 999990) :
  Calls Tryz.prog 119 #[l, .agg #[.string (str nm), .bool false, .bool true, .bool false]] w fun r w' => ∃ l', r = .returned l' ∧ Tl B w w' l l' (T ++ zs ([] ++ (secT true ++ [nmT nm]))) := by
 obtain ⟨W, hW⟩ : ∃ W, w.alloc (.cells #[.string (str nm), .bool false, .bool true, .bool false] 49) = W := ⟨_, rfl⟩
 have hBw : Below w.heap.size w W := by rw [← hW]; exact aB (Below.refl _ _) _
 have hrW : rowG #[.string (str nm), .bool false, .bool true, .bool false] W w.heap.size := by rw [← hW]; exact rowG_at _ _ _ _ rfl
 have hn0 : l.ownBlock ≠ some w.heap.size := own_new ho (.inl (Nat.le_refl _))
 have hoW : W.ownsRow B 95 4 l T.length (cellsZ T) := own_of ho hBw
 have hBW : B ≤ W.heap.size := Nat.le_trans hB hBw.size
 have u0 : W.cell? ⟨w.heap.size, 0, none⟩ = some (.string (str nm)) := hrW.1 0 (by simp); have u1 : W.cell? ⟨w.heap.size, 1, none⟩ = some (.bool false) := hrW.1 1 (by simp); have u2 : W.cell? ⟨w.heap.size, 2, none⟩ = some (.bool true) := hrW.1 2 (by simp); have u3 : W.cell? ⟨w.heap.size, 3, none⟩ = some (.bool false) := hrW.1 3 (by simp)
 have hlW := hrW.2.2
 go_enter Tryz.func119, Tryz.ntmps119
 go_wp2
 have hBX := hBW
 have hBD : B ≤ W.drew.heap.size := hBX
 have hoX : W.drew.ownsRow B 95 4 l T.length (cellsZ T) := own_only hoW (od1 (S := fun _ => False)) (fun _ _ h => h)
 have hFi : ∀ w', Only (fun j => l.ownBlock = some j) W w' → w'.cell? ⟨w.heap.size, 0, none⟩ = some (.string (str nm)) ∧ w'.cell? ⟨w.heap.size, 2, none⟩ = some (.bool true) := fun w' h => ⟨(rowG_only hrW h hn0).1 0 (by simp), (rowG_only hrW h hn0).1 2 (by simp)⟩
 have hF0 : Only (fun j => l.ownBlock = some j) W W.drew := od1
 refine region_KN (fun w' => Only (fun j => l.ownBlock = some j) W w') (by kernel_rfl) ?_
 have q : Pq [0, 1, 2, 4, 5] := trivial
 iterate 5
  refine tkN q rfl (by kernel_rfl) hF0 fun K hK => ?_
  replace q := q.tl
  apply Exists.intro
  refine ⟨Or.inl ⟨by kernel_rfl, fun w' hf => ?_⟩, ?_⟩
  ·obtain ⟨s0, s2⟩ := hFi _ hf
   go_simp
   try exact rfl
  go_simp
  refine hK _ ?_
  clear hK K
 refine wpAnyK_one (k := 3) (by kernel_rfl) ?_
 refine wpOp_step rfl (fun K hK => ?_)
 go_simp
 go_at_call 121
 with_reducible refine (rsecret_any true B _ T _ hoX hBD (by omega)).mono ?_
 rintro e v1 ⟨l3, rfl, hT3⟩
 have hF3 := Only.trans hF0 hT3.only
 refine hK _ _ ⟨hF3, ?_⟩
 clear hK K
 refine wpAnyK_one (k := 6) (by kernel_rfl) ?_
 refine wpOp_step rfl (fun K hK => ?_)
 go_simp
 go_at_call 116
 with_reducible refine (rname_any nm B _ (T ++ zs (secT true)) _ hT3.own (Nat.le_trans hBX hF3.size) (by have := sec_len true; simp only [List.length_append, zs_len]; omega)).mono ?_
 rintro e v2 ⟨l6, rfl, hT6⟩
 have hT36 := hT3.trans hT6
 have hF6 := Only.trans hF0 hT36.only
 refine hK _ _ ⟨hF6, ?_⟩
 clear hK K
 refine wpAnyK_one (k := 7) (by kernel_rfl) ?_
 refine wpOp_step rfl (fun K hK => ?_)
 go_simp
 refine hK _ _ ⟨hF6, ?_⟩
 clear hK K
 refine wpAnyK_done (by kernel_rfl) ⟨rfl, ?_⟩
 go_wp2
 go_ret
 have hz := (tl_fin (Below.refl _ _) hF0 hT36).pre hBw
 rw [show T ++ zs (secT true) ++ zs [nmT nm] = T ++ zs ([] ++ (secT true ++ [nmT nm])) from by simp [zs]] at hz
 exact ⟨_, rfl, hz⟩
theorem rparam_nu (nm : List UInt8) (B : Nat) (l : Value) (T : List (Tk × Int)) (w : World) (ho : w.ownsRow B 95 4 l T.length (cellsZ T)) (hB : B ≤ w.heap.size) (hl : T.length ≤ 999990) :
  Calls Tryz.prog 119 #[l, .agg #[.string (str nm), .bool false, .bool false, .bool false]] w fun r w' => ∃ l', r = .returned l' ∧ Tl B w w' l l' (T ++ zs ([wdT wNum] ++ (secT false ++ [nmT nm]))) := by
 obtain ⟨W, hW⟩ : ∃ W, w.alloc (.cells #[.string (str nm), .bool false, .bool false, .bool false] 49) = W := ⟨_, rfl⟩
 have hBw : Below w.heap.size w W := by rw [← hW]; exact aB (Below.refl _ _) _
 have hrW : rowG #[.string (str nm), .bool false, .bool false, .bool false] W w.heap.size := by rw [← hW]; exact rowG_at _ _ _ _ rfl
 have hn0 : l.ownBlock ≠ some w.heap.size := own_new ho (.inl (Nat.le_refl _))
 have hoW : W.ownsRow B 95 4 l T.length (cellsZ T) := own_of ho hBw
 have hBW : B ≤ W.heap.size := Nat.le_trans hB hBw.size
 have hwd := rword_any wNum B l T W hoW hBW (by omega)
 rw [show str wNum = { data := #[110, 117, 109] } from rfl] at hwd
 have u0 : W.cell? ⟨w.heap.size, 0, none⟩ = some (.string (str nm)) := hrW.1 0 (by simp); have u1 : W.cell? ⟨w.heap.size, 1, none⟩ = some (.bool false) := hrW.1 1 (by simp); have u2 : W.cell? ⟨w.heap.size, 2, none⟩ = some (.bool false) := hrW.1 2 (by simp); have u3 : W.cell? ⟨w.heap.size, 3, none⟩ = some (.bool false) := hrW.1 3 (by simp)
 have hlW := hrW.2.2
 go_enter Tryz.func119, Tryz.ntmps119
 go_wp2_with (go_at_call 115; ((with_reducible refine hwd.mono ?_); (rintro e w1 ⟨l1, rfl, hT1⟩)))
 have hn1 : l1.ownBlock ≠ some w.heap.size := hT1.apart hlW hn0
 have hr1 : rowG #[.string (str nm), .bool false, .bool false, .bool false] w1 w.heap.size := rowG_only hrW hT1.only hn0
 have hBX : B ≤ w1.heap.size := Nat.le_trans hBW hT1.only.size
 have hBD : B ≤ w1.drew.heap.size := hBX
 have hoX : w1.drew.ownsRow B 95 4 l1 (T ++ zs [wdT wNum]).length (cellsZ (T ++ zs [wdT wNum])) := own_only hT1.own (od1 (S := fun _ => False)) (fun _ _ h => h)
 have hFi : ∀ w', Only (fun j => l1.ownBlock = some j) w1 w' → w'.cell? ⟨w.heap.size, 0, none⟩ = some (.string (str nm)) ∧ w'.cell? ⟨w.heap.size, 2, none⟩ = some (.bool false) := fun w' h => ⟨(rowG_only hr1 h hn1).1 0 (by simp), (rowG_only hr1 h hn1).1 2 (by simp)⟩
 have hF0 : Only (fun j => l1.ownBlock = some j) w1 w1.drew := od1
 refine region_KN (fun w' => Only (fun j => l1.ownBlock = some j) w1 w') (by kernel_rfl) ?_
 have q : Pq [0, 1, 2, 4, 5] := trivial
 iterate 5
  refine tkN q rfl (by kernel_rfl) hF0 fun K hK => ?_
  replace q := q.tl
  apply Exists.intro
  refine ⟨Or.inl ⟨by kernel_rfl, fun w' hf => ?_⟩, ?_⟩
  ·obtain ⟨s0, s2⟩ := hFi _ hf
   go_simp
   try exact rfl
  go_simp
  refine hK _ ?_
  clear hK K
 refine wpAnyK_one (k := 3) (by kernel_rfl) ?_
 refine wpOp_step rfl (fun K hK => ?_)
 go_simp
 go_at_call 121
 with_reducible refine (rsecret_any false B _ (T ++ zs [wdT wNum]) _ hoX hBD (by simp only [List.length_append, zs_len, List.length_cons, List.length_nil]; omega)).mono ?_
 rintro e v1 ⟨l3, rfl, hT3⟩
 have hF3 := Only.trans hF0 hT3.only
 refine hK _ _ ⟨hF3, ?_⟩
 clear hK K
 refine wpAnyK_one (k := 6) (by kernel_rfl) ?_
 refine wpOp_step rfl (fun K hK => ?_)
 go_simp
 go_at_call 116
 with_reducible refine (rname_any nm B _ ((T ++ zs [wdT wNum]) ++ zs (secT false)) _ hT3.own (Nat.le_trans hBX hF3.size) (by have := sec_len false; simp only [List.length_append, zs_len, List.length_cons, List.length_nil]; omega)).mono ?_
 rintro e v2 ⟨l6, rfl, hT6⟩
 have hT36 := hT3.trans hT6
 have hF6 := Only.trans hF0 hT36.only
 refine hK _ _ ⟨hF6, ?_⟩
 clear hK K
 refine wpAnyK_one (k := 7) (by kernel_rfl) ?_
 refine wpOp_step rfl (fun K hK => ?_)
 go_simp
 refine hK _ _ ⟨hF6, ?_⟩
 clear hK K
 refine wpAnyK_done (by kernel_rfl) ⟨rfl, ?_⟩
 go_wp2
 go_ret
 have hz := (hT1.trans (tl_fin (Below.refl _ _) hF0 hT36)).pre hBw
 rw [show (T ++ zs [wdT wNum]) ++ zs (secT false) ++ zs [nmT nm] = T ++ zs ([wdT wNum] ++ (secT false ++ [nmT nm])) from by simp [zs]] at hz
 exact ⟨_, rfl, hz⟩
theorem rparam_any (p : Pm) (B : Nat) (l : Value) (T : List (Tk × Int)) (w : World) (ho : w.ownsRow B 95 4 l T.length (cellsZ T)) (hB : B ≤ w.heap.size) (hl : T.length ≤ 999990) :
  Calls Tryz.prog 119 #[l, .agg #[.string (str p.nm), .bool p.buf, .bool p.sec, .bool p.mu]] w fun r w' => ∃ l', r = .returned l' ∧ Tl B w w' l l' (T ++ zs (pmT p)) := by
 obtain ⟨nm, buf, sec, mu⟩ := p
 cases mu
 ·cases buf
  ·cases sec
   ·exact rparam_nu nm B l T w ho hB hl
   ·exact rparam_sc nm B l T w ho hB hl
  ·exact rparam_vw nm sec B l T w ho hB hl
 ·exact rparam_ed nm buf sec B l T w ho hB hl
end Go.Proofs.YtkibkaoffgnmkaaGreatDoor
