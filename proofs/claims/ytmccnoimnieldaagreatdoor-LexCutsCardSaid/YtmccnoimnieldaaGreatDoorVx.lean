/- Contracts of the document's own answers of layer 6: the token at a place where no digit stands. -/
import Derived.Test.YtmccnoimnieldaaGreatDoorVw
namespace Go.Proofs.YtmccnoimnieldaaGreatDoor
open Go.ChangeShapes Go.WideShapes Go.ChangeAt Go.RowKit
set_option linter.unusedVariables false
set_option maxRecDepth 100000 in
set_option maxHeartbeats 4000000 in
theorem one_sgn (s : ByteArray) (a : Nat) (ha : a < s.size) (hs : s.size ≤ 16384) (hL : isL (s[a]'ha) = false) (hD : isD (s[a]'ha) = false) (w : World) :
    Calls Tryz.prog 14 #[.string s, .int .i64 (a : Int)] w fun e w' => e = .returned (oneV a (tok (s.data.toList.drop a))) ∧ Below w.heap.size w w' := by
  have htk := tok_at s a ha
  rw [if_neg (by rw [hL]; simp), if_neg (by rw [hD]; simp)] at htk
  rw [htk]
  have hd := rdigit_any (s[a]'ha)
  have hl := rletter_any (s[a]'ha)
  rw [hD] at hd
  rw [hL] at hl
  have hS := rsign_any s a (Nat.le_of_lt ha) hs
  have hlen := (ls_at (s.data.toList.drop a)).2.1.length_le
  have hsl : s.data.toList.length = s.size := by simp
  rw [List.length_drop, hsl] at hlen
  generalize ls (s.data.toList.drop a) = p at hS hlen ⊢
  clear htk hsl
  by_cases hp : p = []
  · subst hp
    have hS' : ∀ w, Calls Tryz.prog 35 #[.string s, .int .i64 (a : Int)] w fun e w' => e = .returned (.string ⟨#[]⟩) ∧ Below w.heap.size w w' := hS
    clear hS hlen
    go_enter Tryz.func14, Tryz.ntmps14
    go_wp2
    go_loop [7] (fun e => e = .int .i64 (a : Int)) (fun _ => 0)
    case atStart => exact rfl
    case round =>
      obtain rfl := hrel
      go_wp2_with (go_at_call 18; ((with_reducible refine (hd _).mono ?_); rintro e w1 ⟨rfl, rfl⟩))
      go_loop [7] (fun e => e = .int .i64 (a : Int)) (fun _ => 0)
      case atStart => exact rfl
      case round =>
        obtain rfl := hrel
        go_wp2_with (first | (go_at_call 16; ((with_reducible refine (hl _).mono ?_); rintro e w1 ⟨rfl, rfl⟩)) | (go_at_call 18; ((with_reducible refine (hd _).mono ?_); rintro e w1 ⟨rfl, rfl⟩)) | (go_at_call 35; ((with_reducible refine (hS' _).mono ?_); (rintro e w5 ⟨rfl, hb⟩); obtain ⟨hc, hf⟩ := bcell hb; have hz : w.heap.size < w5.heap.size := (by have := hb.size; simp at this; omega))))
        refine bodyPost_ret (v := .tuple #[.agg #[.int .u8 0, .string ⟨#[]⟩, .int .u64 0, .int .i64 0], .int .i64 0, .int .i64 7]) (by simp [results, Tryz.results14, go_sem, hc]) rfl ⟨rfl, ?_⟩
        exact ((((((Below.refl _ _).alloc (Nat.le_refl _) _).trans (hb.mono (by simp))).setCell (by simp) _).setCell (by simp) _).setCell (by simp) _).setCell (by simp) _
  · obtain ⟨c, r, rfl⟩ := List.exists_cons_of_ne_nil hp
    have hz : (str (c :: r)).size = (c :: r).length := str_size _
    have hne := list_ne (s := str (c :: r)) (by rw [str_list]; simp)
    obtain ⟨h1, h2⟩ := hne
    rw [← hz] at hlen
    generalize hP : c :: r = p at *
    obtain ⟨P, hPP⟩ : ∃ P, str p = P := ⟨_, rfl⟩
    rw [hPP] at hS h1 h2 hlen hz
    have HZ := Lib.hid hz
    have HPP := Lib.hid hPP
    clear hPP
    have hsp : signP p = .ok ⟨4, p, 0⟩ p := by unfold signP; rw [if_neg hp]
    rw [hsp]
    clear hsp hp hP hz
    go_enter Tryz.func14, Tryz.ntmps14
    go_wp2
    go_loop [7] (fun e => e = .int .i64 (a : Int)) (fun _ => 0)
    case atStart => exact rfl
    case round =>
      obtain rfl := hrel
      go_wp2_with (go_at_call 18; ((with_reducible refine (hd _).mono ?_); rintro e w1 ⟨rfl, rfl⟩))
      go_loop [7] (fun e => e = .int .i64 (a : Int)) (fun _ => 0)
      case atStart => exact rfl
      case round =>
        obtain rfl := hrel
        go_wp2_with (first | (go_at_call 16; ((with_reducible refine (hl _).mono ?_); rintro e w1 ⟨rfl, rfl⟩)) | (go_at_call 18; ((with_reducible refine (hd _).mono ?_); rintro e w1 ⟨rfl, rfl⟩)) | (go_at_call 35; ((with_reducible refine (hS _).mono ?_); (rintro e w5 ⟨rfl, hb⟩); obtain ⟨hc, hf⟩ := bcell hb; have hz : w.heap.size < w5.heap.size := (by have := hb.size; simp at this; omega))))
        refine bodyPost_ret (v := .tuple #[.agg #[.int .u8 4, .string P, .int .u64 0, .int .i64 (a : Int)], .int .i64 (P.size : Int), .int .i64 0]) (by simp [results, Tryz.results14, go_sem, hc]) rfl ⟨?_, ?_⟩
        · unfold oneV; simp only [HZ.out, HPP.out]; rfl
        · exact ((((((Below.refl _ _).alloc (Nat.le_refl _) _).trans (hb.mono (by simp))).setCell (by simp) _).setCell (by simp) _).setCell (by simp) _).setCell (by simp) _
set_option maxRecDepth 100000 in
set_option maxHeartbeats 4000000 in
theorem one_let (s : ByteArray) (a : Nat) (ha : a < s.size) (hs : s.size ≤ 16384) (hL : isL (s[a]'ha) = true) (w : World) :
    Calls Tryz.prog 14 #[.string s, .int .i64 (a : Int)] w fun e w' => e = .returned (oneV a (tok (s.data.toList.drop a))) ∧ Below w.heap.size w w' := by
  have hD : isD (s[a]'ha) = false := isL_D hL
  have htk := tok_at s a ha
  rw [if_pos hL] at htk
  have hcut2 := span_le isLD s a (Nat.le_of_lt ha)
  have hel := ext_span isLD s a hcut2
  rw [← hel] at htk
  have hsz := ext_sz s a (spanL isLD s a) hcut2
  have hpos : 0 < spanL isLD s a := by
    unfold spanL; rw [drop_cons s a ha, List.takeWhile_cons, isL_LD hL]; simp
  obtain ⟨P, hP⟩ : ∃ P, P = s.extract a (a + spanL isLD s a) := ⟨_, rfl⟩
  rw [← hP] at htk hsz
  rw [htk]
  have hW := word_any P
  have HP := Lib.hid hP
  have HSZ := Lib.hid hsz
  have hd := rdigit_any (s[a]'ha)
  rw [hD] at hd
  clear htk hel hP hsz hD hcut2
  go_enter Tryz.func14, Tryz.ntmps14
  go_wp2
  go_loop [7] (fun e => e = .int .i64 (a : Int)) (fun _ => 0)
  case atStart => exact rfl
  case round =>
    obtain rfl := hrel
    go_wp2_with (go_at_call 18; ((with_reducible refine (hd _).mono ?_); rintro e w1 ⟨rfl, rfl⟩))
    go_loop [7] (fun e => ∃ k : Nat, a + k ≤ s.size ∧ e = .int .i64 ((a + k : Nat) : Int) ∧ Hid (∀ j, j < k → ∀ h : a + j < s.size, isLD (s[a + j]'h) = true)) (fun e => s.size - (intOf e).toNat)
    case atStart => exact ⟨0, by omega, rfl, Lib.hid (fun j hj => by omega)⟩
    case round =>
      obtain ⟨k, hk, rfl, hall⟩ := hrel
      by_cases hlt : a + k < s.size
      · have hl2 := rletter_any (s[a + k]'hlt)
        have hd2 := rdigit_any (s[a + k]'hlt)
        cases hp : isLD (s[a + k]'hlt)
        · have hpl : isL (s[a + k]'hlt) = false ∧ isD (s[a + k]'hlt) = false := by unfold isLD at hp; simpa using hp
          rw [hpl.1] at hl2
          rw [hpl.2] at hd2
          have HSP := Lib.hid (span_on isLD s a k hlt hall.out hp)
          clear hp hall hpl
          have hk1 : 0 < k := by rw [← HSP.out]; exact hpos
          have hcut := cut_run s a k hk
          have HPk := Lib.hid (show s.extract a (a + k) = P by rw [HP.out, HSP.out])
          rw [HPk.out] at hcut
          have hgt : (a : Int) < (a : Int) + (k : Int) := by omega
          have hpz : P.size = k := by rw [← HSP.out, ← HSZ.out]
          have hpl : P.data.toList.length = k := by rw [← hpz]; simp
          have HPZ := Lib.hid hpz
          have HPL := Lib.hid hpl
          by_cases h16 : 16 < P.size
          · have HN := Lib.hid (show nameP P.data.toList = .er 5 by unfold nameP; rw [if_pos (by rw [HPL.out, ← HPZ.out]; exact h16)])
            clear hpz hpl
            go_wp2_with (first | (go_at_call 16; ((with_reducible refine (hl2 _).mono ?_); rintro e w1 ⟨rfl, rfl⟩)) | (go_at_call 18; ((with_reducible refine (hd2 _).mono ?_); rintro e w1 ⟨rfl, rfl⟩)) | (go_at_call 17; ((with_reducible refine (hW _).mono ?_); (rintro e w5 ⟨rfl, hb⟩); obtain ⟨hc, hf⟩ := bcell hb; have hz : w.heap.size < w5.heap.size := (by have := hb.size; simp at this; omega))))
            refine bodyPost_ret (v := .tuple #[.agg #[.int .u8 0, .string ⟨#[]⟩, .int .u64 0, .int .i64 0], .int .i64 0, .int .i64 5]) (by simp [results, Tryz.results14, go_sem]) rfl ⟨by rw [HN.out]; rfl, ?_⟩
            exact (Below.refl _ _).alloc (Nat.le_refl _) _
          · have h16' : P.size ≤ 16 := by omega
            have HN := Lib.hid (show nameP P.data.toList = .ok ⟨if isWd P.data.toList then 2 else 1, P.data.toList, 0⟩ P.data.toList by unfold nameP; rw [if_neg (by rw [HPL.out, ← HPZ.out]; exact h16)])
            clear hpz hpl h16
            cases hw : isWd P.data.toList
            · rw [hw] at hW
              have HW := Lib.hid hw
              clear hw
              go_wp2_with (first | (go_at_call 16; ((with_reducible refine (hl2 _).mono ?_); rintro e w1 ⟨rfl, rfl⟩)) | (go_at_call 18; ((with_reducible refine (hd2 _).mono ?_); rintro e w1 ⟨rfl, rfl⟩)) | (go_at_call 17; ((with_reducible refine (hW _).mono ?_); (rintro e w5 ⟨rfl, hb⟩); obtain ⟨hc, hf⟩ := bcell hb; have hz : w.heap.size < w5.heap.size := (by have := hb.size; simp at this; omega))))
              refine bodyPost_ret (v := .tuple #[.agg #[.int .u8 1, .string P, .int .u64 0, .int .i64 (a : Int)], .int .i64 (k : Int), .int .i64 0]) (by simp [results, Tryz.results14, go_sem, hc]; omega) rfl ⟨?_, ?_⟩
              · rw [HN.out, HW.out]; unfold oneV; simp only [str_of, HPL.out]; rfl
              · exact ((((((Below.refl _ _).alloc (Nat.le_refl _) _).trans (hb.mono (by simp))).setCell (by simp) _).setCell (by simp) _).setCell (by simp) _).setCell (by simp) _
            · rw [hw] at hW
              have HW := Lib.hid hw
              clear hw
              go_wp2_with (first | (go_at_call 16; ((with_reducible refine (hl2 _).mono ?_); rintro e w1 ⟨rfl, rfl⟩)) | (go_at_call 18; ((with_reducible refine (hd2 _).mono ?_); rintro e w1 ⟨rfl, rfl⟩)) | (go_at_call 17; ((with_reducible refine (hW _).mono ?_); (rintro e w5 ⟨rfl, hb⟩); obtain ⟨hc, hf⟩ := bcell hb; have hz : w.heap.size < w5.heap.size := (by have := hb.size; simp at this; omega))))
              refine bodyPost_ret (v := .tuple #[.agg #[.int .u8 2, .string P, .int .u64 0, .int .i64 (a : Int)], .int .i64 (k : Int), .int .i64 0]) (by simp [results, Tryz.results14, go_sem, hc]; omega) rfl ⟨?_, ?_⟩
              · rw [HN.out, HW.out]; unfold oneV; simp only [str_of, HPL.out]; rfl
              · exact ((((((Below.refl _ _).alloc (Nat.le_refl _) _).trans (hb.mono (by simp))).setCell (by simp) _).setCell (by simp) _).setCell (by simp) _).setCell (by simp) _
        · have HP2 := Lib.hid hp
          cases hpl : isL (s[a + k]'hlt)
          · have hpd : isD (s[a + k]'hlt) = true := by unfold isLD at hp; rw [hpl] at hp; simpa using hp
            rw [hpl] at hl2
            rw [hpd] at hd2
            clear hp hpl hpd
            go_wp2_with (first | (go_at_call 16; ((with_reducible refine (hl2 _).mono ?_); rintro e w1 ⟨rfl, rfl⟩)) | (go_at_call 18; ((with_reducible refine (hd2 _).mono ?_); rintro e w1 ⟨rfl, rfl⟩)))
            go_round
            case rel => exact ⟨k + 1, by omega, by go_num, Lib.hid (fun j hj h => by
              by_cases e : j = k
              · subst e; exact HP2.out
              · exact hall.out j (by omega) h)⟩
            case measure => simp [intOf]; omega
          · rw [hpl] at hl2
            clear hp hpl
            go_wp2_with (first | (go_at_call 16; ((with_reducible refine (hl2 _).mono ?_); rintro e w1 ⟨rfl, rfl⟩)) | (go_at_call 18; ((with_reducible refine (hd2 _).mono ?_); rintro e w1 ⟨rfl, rfl⟩)))
            go_round
            case rel => exact ⟨k + 1, by omega, by go_num, Lib.hid (fun j hj h => by
              by_cases e : j = k
              · subst e; exact HP2.out
              · exact hall.out j (by omega) h)⟩
            case measure => simp [intOf]; omega
      · have hk' : a + k = s.size := by omega
        have HSP := Lib.hid (show spanL isLD s a = k by rw [span_all isLD s a (Nat.le_of_lt ha) (fun j h => hall.out j (by omega) h)]; omega)
        have HK := Lib.hid hk'
        clear hk' hall
        have hk1 : 0 < k := by rw [← HSP.out]; exact hpos
        have hcut := cut_run s a k hk
        have HPk := Lib.hid (show s.extract a (a + k) = P by rw [HP.out, HSP.out])
        rw [HPk.out] at hcut
        have hgt : (a : Int) < (a : Int) + (k : Int) := by omega
        have hpz : P.size = k := by rw [← HSP.out, ← HSZ.out]
        have hpl : P.data.toList.length = k := by rw [← hpz]; simp
        have HPZ := Lib.hid hpz
        have HPL := Lib.hid hpl
        by_cases h16 : 16 < P.size
        · have HN := Lib.hid (show nameP P.data.toList = .er 5 by unfold nameP; rw [if_pos (by rw [HPL.out, ← HPZ.out]; exact h16)])
          clear hpz hpl
          go_wp2_with (go_at_call 17; ((with_reducible refine (hW _).mono ?_); (rintro e w5 ⟨rfl, hb⟩); obtain ⟨hc, hf⟩ := bcell hb; have hz : w.heap.size < w5.heap.size := (by have := hb.size; simp at this; omega)))
          refine bodyPost_ret (v := .tuple #[.agg #[.int .u8 0, .string ⟨#[]⟩, .int .u64 0, .int .i64 0], .int .i64 0, .int .i64 5]) (by simp [results, Tryz.results14, go_sem]) rfl ⟨by rw [HN.out]; rfl, ?_⟩
          exact (Below.refl _ _).alloc (Nat.le_refl _) _
        · have h16' : P.size ≤ 16 := by omega
          have HN := Lib.hid (show nameP P.data.toList = .ok ⟨if isWd P.data.toList then 2 else 1, P.data.toList, 0⟩ P.data.toList by unfold nameP; rw [if_neg (by rw [HPL.out, ← HPZ.out]; exact h16)])
          clear hpz hpl h16
          cases hw : isWd P.data.toList
          · rw [hw] at hW
            have HW := Lib.hid hw
            clear hw
            go_wp2_with (go_at_call 17; ((with_reducible refine (hW _).mono ?_); (rintro e w5 ⟨rfl, hb⟩); obtain ⟨hc, hf⟩ := bcell hb; have hz : w.heap.size < w5.heap.size := (by have := hb.size; simp at this; omega)))
            refine bodyPost_ret (v := .tuple #[.agg #[.int .u8 1, .string P, .int .u64 0, .int .i64 (a : Int)], .int .i64 (k : Int), .int .i64 0]) (by simp [results, Tryz.results14, go_sem, hc]; omega) rfl ⟨?_, ?_⟩
            · rw [HN.out, HW.out]; unfold oneV; simp only [str_of, HPL.out]; rfl
            · exact ((((((Below.refl _ _).alloc (Nat.le_refl _) _).trans (hb.mono (by simp))).setCell (by simp) _).setCell (by simp) _).setCell (by simp) _).setCell (by simp) _
          · rw [hw] at hW
            have HW := Lib.hid hw
            clear hw
            go_wp2_with (go_at_call 17; ((with_reducible refine (hW _).mono ?_); (rintro e w5 ⟨rfl, hb⟩); obtain ⟨hc, hf⟩ := bcell hb; have hz : w.heap.size < w5.heap.size := (by have := hb.size; simp at this; omega)))
            refine bodyPost_ret (v := .tuple #[.agg #[.int .u8 2, .string P, .int .u64 0, .int .i64 (a : Int)], .int .i64 (k : Int), .int .i64 0]) (by simp [results, Tryz.results14, go_sem, hc]; omega) rfl ⟨?_, ?_⟩
            · rw [HN.out, HW.out]; unfold oneV; simp only [str_of, HPL.out]; rfl
            · exact ((((((Below.refl _ _).alloc (Nat.le_refl _) _).trans (hb.mono (by simp))).setCell (by simp) _).setCell (by simp) _).setCell (by simp) _).setCell (by simp) _
end Go.Proofs.YtmccnoimnieldaaGreatDoor
