/- The chapter's examples: what each statement asks ahead of all else. -/
import Derived.Test.YtnblnmehfhkfmaaGreatDoorEu
import Derived.Test.YtnblnmehfhkfmaaGreatDoorEr
import Derived.Test.YtnblnmehfhkfmaaGreatDoorEf
import Derived.Test.YtnblnmehfhkfmaaGreatDoorVs
namespace Go.Proofs.YtnblnmehfhkfmaaGreatDoor
open Go.ChangeShapes Go.WideShapes Go.ChangeAt Go.RowKit
set_option linter.unusedVariables false
def e5T : List (Tk × Nat) := [(sg [40], 0), (nmT [97], 1), (sg [43], 3), (nmT [98], 5), (sg [91], 6), (⟨3, [], 2⟩, 7), (sg [93], 8), (sg [41], 9), (⟨5, [], 0⟩, 10)]
def e6T : List (Tk × Nat) := [(sg [40], 0), (nmT [97], 1), (sg [43], 3), (sg [41], 5), (⟨5, [], 0⟩, 6)]
def wantX : Xp := .mk 3 0 [] 1 [.mk 2 0 [97] 0 [], .mk 5 0 [98] 0 [.mk 1 2 [] 0 []]]
theorem ex5 : lexT [40, 97, 32, 43, 32, 98, 91, 50, 93, 41] = .ok e5T := by
  have t1 : tok [40, 97, 32, 43, 32, 98, 91, 50, 93, 41] = .ok ⟨4, [40], 0⟩ [40] := by kernel_rfl
  have t2 : tok [97, 32, 43, 32, 98, 91, 50, 93, 41] = .ok ⟨1, [97], 0⟩ [97] := by kernel_rfl
  have t3 : tok [43, 32, 98, 91, 50, 93, 41] = .ok ⟨4, [43], 0⟩ [43] := by kernel_rfl
  have t4 : tok [98, 91, 50, 93, 41] = .ok ⟨1, [98], 0⟩ [98] := by kernel_rfl
  have t5 : tok [91, 50, 93, 41] = .ok ⟨4, [91], 0⟩ [91] := by kernel_rfl
  have t6 : tok [50, 93, 41] = .ok ⟨3, [], 2⟩ [50] := num2
  have t7 : tok [93, 41] = .ok ⟨4, [93], 0⟩ [93] := by kernel_rfl
  have t8 : tok [41] = .ok ⟨4, [41], 0⟩ [41] := by kernel_rfl
  have s1 := lex_step (f := 10) (r := [97, 32, 43, 32, 98, 91, 50, 93, 41]) (a := 0) t1 rfl
  have s2 := lex_step (f := 9) (r := [32, 43, 32, 98, 91, 50, 93, 41]) (a := 1) t2 rfl
  have b2 := lex_blank (f := 8) (a := 2) (c := 32) (r := [43, 32, 98, 91, 50, 93, 41]) (by decide)
  have s3 := lex_step (f := 8) (r := [32, 98, 91, 50, 93, 41]) (a := 3) t3 rfl
  have b3 := lex_blank (f := 7) (a := 4) (c := 32) (r := [98, 91, 50, 93, 41]) (by decide)
  have s4 := lex_step (f := 7) (r := [91, 50, 93, 41]) (a := 5) t4 rfl
  have s5 := lex_step (f := 6) (r := [50, 93, 41]) (a := 6) t5 rfl
  have s6 := lex_step (f := 5) (r := [93, 41]) (a := 7) t6 rfl
  have s7 := lex_step (f := 4) (r := [41]) (a := 8) t7 rfl
  have s8 := lex_step (f := 3) (r := []) (a := 9) t8 rfl
  have s9 := lex_end 2 [] (by simp) 10
  show lexN (10 + 1) [40, 97, 32, 43, 32, 98, 91, 50, 93, 41] 0 = .ok e5T
  rw [s1]
  show (lexN (9 + 1) [97, 32, 43, 32, 98, 91, 50, 93, 41] 1).pre _ = _
  rw [s2]
  show ((lexN (8 + 1) [32, 43, 32, 98, 91, 50, 93, 41] 2).pre _).pre _ = _
  rw [b2]
  show ((lexN (8 + 1) [43, 32, 98, 91, 50, 93, 41] 3).pre _).pre _ = _
  rw [s3]
  show (((lexN (7 + 1) [32, 98, 91, 50, 93, 41] 4).pre _).pre _).pre _ = _
  rw [b3]
  show (((lexN (7 + 1) [98, 91, 50, 93, 41] 5).pre _).pre _).pre _ = _
  rw [s4]
  show ((((lexN (6 + 1) [91, 50, 93, 41] 6).pre _).pre _).pre _).pre _ = _
  rw [s5]
  show (((((lexN (5 + 1) [50, 93, 41] 7).pre _).pre _).pre _).pre _).pre _ = _
  rw [s6]
  show ((((((lexN (4 + 1) [93, 41] 8).pre _).pre _).pre _).pre _).pre _).pre _ = _
  rw [s7]
  show (((((((lexN (3 + 1) [41] 9).pre _).pre _).pre _).pre _).pre _).pre _).pre _ = _
  rw [s8]
  show ((((((((lexN (2 + 1) [] 10).pre _).pre _).pre _).pre _).pre _).pre _).pre _).pre _ = _
  rw [s9]
  rfl
theorem ex6 : lexT [40, 97, 32, 43, 32, 41] = .ok e6T := by kernel_rfl
theorem rd5 : rdE 40 (bareZ (e5T.map fun x => (x.1, (x.2 : Int)))) 0 = .ok wantX 8 := by kernel_rfl
theorem rd6 : rdE 40 (bareZ (e6T.map fun x => (x.1, (x.2 : Int)))) 0 = .er 7 3 := by kernel_rfl
theorem pl6 : placeZ (e6T.map fun x => (x.1, (x.2 : Int))) 3 = 5 := by decide +kernel
theorem may5 : mayB 40 wantX = true := by decide +kernel
theorem may0 : mayB 40 (.mk 0 0 [] 0 []) = false := by decide +kernel
theorem len5 : (zs (tellF 40 wantX)).length = 8 := by decide +kernel
theorem want_in (W : World) : IsB (((W.alloc (.cells #[.int .u8 1, .int .u64 2, .string ⟨#[]⟩, .int .u8 0, .slice none 0 0] 25)).alloc (.cells #[.int .u8 2, .int .u64 0, .string ⟨#[97]⟩, .int .u8 0, .slice none 0 0, .int .u8 5, .int .u64 0, .string ⟨#[98]⟩, .int .u8 0, .slice (some ⟨W.heap.size, 0, none⟩) 1 1] 25)).alloc (.cells #[.int .u8 3, .int .u64 0, .string ⟨#[]⟩, .int .u8 1, .slice (some ⟨W.heap.size + 1, 0, none⟩) 2 2] 25)) (.agg #[.int .u8 3, .int .u64 0, .string ⟨#[]⟩, .int .u8 1, .slice (some ⟨W.heap.size + 1, 0, none⟩) 2 2]) wantX := by
  have hA := fun o => new_cell W #[.int .u8 1, .int .u64 2, .string ⟨#[]⟩, .int .u8 0, .slice none 0 0] 25 o
  have hB := fun o => new_cell (W.alloc (.cells #[.int .u8 1, .int .u64 2, .string ⟨#[]⟩, .int .u8 0, .slice none 0 0] 25)) #[.int .u8 2, .int .u64 0, .string ⟨#[97]⟩, .int .u8 0, .slice none 0 0, .int .u8 5, .int .u64 0, .string ⟨#[98]⟩, .int .u8 0, .slice (some ⟨W.heap.size, 0, none⟩) 1 1] 25 o
  rw [World.size_alloc] at hB
  have b1 : Below W.heap.size W (W.alloc (.cells #[.int .u8 1, .int .u64 2, .string ⟨#[]⟩, .int .u8 0, .slice none 0 0] 25)) := aB (Below.refl _ _) _
  have kA : ∀ o x, (W.alloc (.cells #[.int .u8 1, .int .u64 2, .string ⟨#[]⟩, .int .u8 0, .slice none 0 0] 25)).cell? ⟨W.heap.size, o, none⟩ = some x → (((W.alloc (.cells #[.int .u8 1, .int .u64 2, .string ⟨#[]⟩, .int .u8 0, .slice none 0 0] 25)).alloc (.cells #[.int .u8 2, .int .u64 0, .string ⟨#[97]⟩, .int .u8 0, .slice none 0 0, .int .u8 5, .int .u64 0, .string ⟨#[98]⟩, .int .u8 0, .slice (some ⟨W.heap.size, 0, none⟩) 1 1] 25)).alloc (.cells #[.int .u8 3, .int .u64 0, .string ⟨#[]⟩, .int .u8 1, .slice (some ⟨W.heap.size + 1, 0, none⟩) 2 2] 25)).cell? ⟨W.heap.size, o, none⟩ = some x := fun o x h => stay (aB (aB (Below.refl _ _) _) _) h
  have kB : ∀ o x, ((W.alloc (.cells #[.int .u8 1, .int .u64 2, .string ⟨#[]⟩, .int .u8 0, .slice none 0 0] 25)).alloc (.cells #[.int .u8 2, .int .u64 0, .string ⟨#[97]⟩, .int .u8 0, .slice none 0 0, .int .u8 5, .int .u64 0, .string ⟨#[98]⟩, .int .u8 0, .slice (some ⟨W.heap.size, 0, none⟩) 1 1] 25)).cell? ⟨W.heap.size + 1, o, none⟩ = some x → (((W.alloc (.cells #[.int .u8 1, .int .u64 2, .string ⟨#[]⟩, .int .u8 0, .slice none 0 0] 25)).alloc (.cells #[.int .u8 2, .int .u64 0, .string ⟨#[97]⟩, .int .u8 0, .slice none 0 0, .int .u8 5, .int .u64 0, .string ⟨#[98]⟩, .int .u8 0, .slice (some ⟨W.heap.size, 0, none⟩) 1 1] 25)).alloc (.cells #[.int .u8 3, .int .u64 0, .string ⟨#[]⟩, .int .u8 1, .slice (some ⟨W.heap.size + 1, 0, none⟩) 2 2] 25)).cell? ⟨W.heap.size + 1, o, none⟩ = some x := fun o x h => stay (aB (Below.refl _ _) _) h
  have l0 : W.heap.size < (((W.alloc (.cells #[.int .u8 1, .int .u64 2, .string ⟨#[]⟩, .int .u8 0, .slice none 0 0] 25)).alloc (.cells #[.int .u8 2, .int .u64 0, .string ⟨#[97]⟩, .int .u8 0, .slice none 0 0, .int .u8 5, .int .u64 0, .string ⟨#[98]⟩, .int .u8 0, .slice (some ⟨W.heap.size, 0, none⟩) 1 1] 25)).alloc (.cells #[.int .u8 3, .int .u64 0, .string ⟨#[]⟩, .int .u8 1, .slice (some ⟨W.heap.size + 1, 0, none⟩) 2 2] 25)).heap.size := by simp; omega
  have l1 : W.heap.size + 1 < (((W.alloc (.cells #[.int .u8 1, .int .u64 2, .string ⟨#[]⟩, .int .u8 0, .slice none 0 0] 25)).alloc (.cells #[.int .u8 2, .int .u64 0, .string ⟨#[97]⟩, .int .u8 0, .slice none 0 0, .int .u8 5, .int .u64 0, .string ⟨#[98]⟩, .int .u8 0, .slice (some ⟨W.heap.size, 0, none⟩) 1 1] 25)).alloc (.cells #[.int .u8 3, .int .u64 0, .string ⟨#[]⟩, .int .u8 1, .slice (some ⟨W.heap.size + 1, 0, none⟩) 2 2] 25)).heap.size := by simp
  refine IsE.mk (k := 3) (n := 0) (s := []) (o := 1) (l := [.mk 2 0 [97] 0 [], .mk 5 0 [98] 0 [.mk 1 2 [] 0 []]]) (by omega) (by simp) ?_
  refine .cons l1 (kB 0 _ (hB 0)) (kB 1 _ (hB 1)) (kB 2 _ (hB 2)) (kB 3 _ (hB 3)) (kB 4 _ (hB 4)) (by omega) (by simp) .nil ?_
  refine .cons l1 (kB 5 _ (hB 5)) (kB 6 _ (hB 6)) (kB 7 _ (hB 7)) (kB 8 _ (hB 8)) (kB 9 _ (hB 9)) (by omega) (by simp) ?_ .nil
  exact .cons l0 (kA 0 _ (hA 0)) (kA 1 _ (hA 1)) (kA 2 _ (hA 2)) (kA 3 _ (hA 3)) (kA 4 _ (hA 4)) (by omega) (by simp) .nil .nil
theorem want_at (W : World) (a b : Nat) (ha : a = W.heap.size) (hb : b = W.heap.size + 1) : IsB (((W.alloc (.cells #[.int .u8 1, .int .u64 2, .string ⟨#[]⟩, .int .u8 0, .slice none 0 0] 25)).alloc (.cells #[.int .u8 2, .int .u64 0, .string ⟨#[97]⟩, .int .u8 0, .slice none 0 0, .int .u8 5, .int .u64 0, .string ⟨#[98]⟩, .int .u8 0, .slice (some ⟨a, 0, none⟩) 1 1] 25)).alloc (.cells #[.int .u8 3, .int .u64 0, .string ⟨#[]⟩, .int .u8 1, .slice (some ⟨b, 0, none⟩) 2 2] 25)) (.agg #[.int .u8 3, .int .u64 0, .string ⟨#[]⟩, .int .u8 1, .slice (some ⟨b, 0, none⟩) 2 2]) wantX := by
  subst ha hb
  exact want_in W
set_option maxRecDepth 100000 in
set_option maxHeartbeats 8000000 in
theorem alive07 (w : World) (hT : Tb w) : Calls Tryz.prog 7 #[] w fun e w' => e = .returned (.bool true) ∧ Below w.heap.size w w' := by
  have k1 : Calls Tryz.prog 20 #[.string ⟨#[40, 97, 32, 43, 32, 98, 91, 50, 93, 41]⟩] w fun e w' => (∃ v, e = .returned (.tuple #[v, .nilIface]) ∧ RowZ w' v (e5T.map fun x => (x.1, (x.2 : Int)))) ∧ Below w.heap.size w w' :=
    (cut_ok ⟨#[40, 97, 32, 43, 32, 98, 91, 50, 93, 41]⟩ e5T w hT ex5).mono fun e w' ⟨⟨v, he, hv⟩, hb⟩ => ⟨⟨v, he, rowAt_Z (hv.at (by simp [e5T]))⟩, hb⟩
  have k2 : ∀ w, Tb w → Calls Tryz.prog 20 #[.string ⟨#[40, 97, 32, 43, 32, 41]⟩] w fun e w' => (∃ v, e = .returned (.tuple #[v, .nilIface]) ∧ RowZ w' v (e6T.map fun x => (x.1, (x.2 : Int)))) ∧ Below w.heap.size w w' := fun w hT =>
    (cut_ok ⟨#[40, 97, 32, 43, 32, 41]⟩ e6T w hT ex6).mono fun e w' ⟨⟨v, he, hv⟩, hb⟩ => ⟨⟨v, he, rowAt_Z (hv.at (by simp [e6T]))⟩, hb⟩
  have r1 : ∀ w v, RowZ w v (e5T.map fun x => (x.1, (x.2 : Int))) → Tb w → Calls Tryz.prog 16 #[v, .int .i64 0] w fun e w' => (∃ (k n : Int) (s : ByteArray) (o : Int) (mk : Option Addr) (m cap : Nat), e = .returned (.tuple #[.agg #[.int .u8 k, .int .u64 n, .string s, .int .u8 o, .slice mk m cap], .int .i64 8, .nilIface]) ∧ IsE (fun b => w.heap.size ≤ b ∧ b < w'.heap.size) w' (.agg #[.int .u8 k, .int .u64 n, .string s, .int .u8 o, .slice mk m cap]) wantX) ∧ Below w.heap.size w w' := fun w v hv hT => by
    have := read_any hv (by decide +kernel) hT 0 (by omega)
    rw [rd5] at this
    exact this
  have r2 : ∀ w v, RowZ w v (e6T.map fun x => (x.1, (x.2 : Int))) → Tb w → Calls Tryz.prog 16 #[v, .int .i64 0] w fun e w' => e = .returned (.tuple #[.agg #[.int .u8 0, .int .u64 0, .string ⟨#[]⟩, .int .u8 0, .slice none 0 0], .int .i64 0, .iface 48 (.agg #[.int .i64 5, .int .i64 7])]) ∧ Below w.heap.size w w' := fun w v hv hT => by
    have := read_any hv (by decide +kernel) hT 0 (by omega)
    rw [rd6] at this
    exact this.mono fun e w' ⟨he, hb⟩ => ⟨by rw [he]; exact congrArg (fun z => Ending.returned (.tuple #[zX, .int .i64 0, .iface 48 (.agg #[.int .i64 z, .int .i64 7])])) pl6, hb⟩
  have tl : ∀ w v, IsB w v wantX → Tb w → Calls Tryz.prog 10 #[v] w fun e w' => (∃ ma cap, e = .returned (.tuple #[.slice ma 8 cap, .int .i64 0])) ∧ Below w.heap.size w w' := fun w v hE hT =>
    (Tell_yes wantX v w hE hT may5 (by decide +kernel)).mono fun e w' ⟨⟨l, he, hl⟩, hb⟩ => by
      obtain ⟨ma, c, rfl, _⟩ := (own_rowZ hl).row
      rw [len5] at he
      exact ⟨⟨ma, c, he⟩, hb⟩
  have ck : ∀ w v, IsB w v wantX → Tb w → Calls Tryz.prog 9 #[v] w fun e w' => e = .returned (.int .i64 0) ∧ Below w.heap.size w w' := fun w v hE hT => by
    have := check_any _ wantX v w hE hT
    rw [may5] at this
    exact this
  have c0 : ∀ w, Tb w → Calls Tryz.prog 9 #[.agg #[.int .u8 0, .int .u64 0, .string ⟨#[]⟩, .int .u8 0, .slice none 0 0]] w fun e w' => e = .returned (.int .i64 2) ∧ Below w.heap.size w w' := fun w hT => by
    have := check_any (fun _ => False) (.mk 0 0 [] 0 []) (.agg #[.int .u8 0, .int .u64 0, .string ⟨#[]⟩, .int .u8 0, .slice none 0 0]) w (IsE.mk (k := 0) (n := 0) (s := []) (o := 0) (l := []) (by omega) (by simp) .nil) hT
    rw [may0] at this
    exact this
  have kT : ∀ w, Tb w → Calls Tryz.prog 19 #[.iface 48 (.agg #[.int .i64 5, .int .i64 7]), .agg #[.int .i64 5, .int .i64 7]] w fun e w' => e = .returned (.bool true) ∧ Below w.heap.size w w' := fun w hT => told_er 5 7 (by omega) w hT
  have sm : ∀ w v1 v2 G, IsE G w v1 wantX → IsB w v2 wantX → Calls Tryz.prog 11 #[v1, v2] w fun e w' => e = .returned (.bool true) ∧ Below w.heap.size w w' := fun w v1 v2 G h1 h2 => same07 _ wantX (Nat.le_refl _) w v1 v2 _ _ h1 h2
  go_enter Tryz.func7, Tryz.ntmps7
  go_wp2_with (first | (go_at_call 20; ((with_reducible refine k1.mono ?_); (rintro e x1 ⟨⟨v1, rfl, hr1⟩, hb1⟩); have hT1 := hT.of hb1)) | (go_at_call 20; ((with_reducible refine (k2 _ hT1).mono ?_); (rintro e x2 ⟨⟨v2, rfl, hr2⟩, hb2⟩); have hT2 := hT1.of hb2; have hr1' := hr1.of hb2)) | (go_at_call 16; ((with_reducible refine (r1 _ _ hr1' hT2).mono ?_); (rintro e x3 ⟨⟨k, n, s, o, mk, m, cap, rfl, hE3⟩, hb3⟩); have hT3 := (hT2.of hb3).alloc (.cells #[.int .u8 k, .int .u64 n, .string s, .int .u8 o, .slice mk m cap] 25); have hr2' := (hr2.of hb3).of (aB (Below.refl x3.heap.size x3) (.cells #[.int .u8 k, .int .u64 n, .string s, .int .u8 o, .slice mk m cap] 25)))) | (go_at_call 16; ((with_reducible refine (r2 _ _ hr2' hT3).mono ?_); (rintro e x4 ⟨rfl, hb4⟩); have hT4 := hT3.of hb4; have hrow4 := rowG_b (rowG_at #[.int .u8 k, .int .u64 n, .string s, .int .u8 o, .slice mk m cap] 25 x3 _ rfl) hb4; have hE4 := (hE3.of (aB (Below.refl x3.heap.size x3) (.cells #[.int .u8 k, .int .u64 n, .string s, .int .u8 o, .slice mk m cap] 25))).of hb4; have hW4 := want_at (x4.alloc (.cells #[.int .u8 0, .int .u64 0, .string ⟨#[]⟩, .int .u8 0, .slice none 0 0] 25)) (x4.heap.size + 1) (x4.heap.size + 1 + 1) (by simp) (by simp); have hT4' := ((((hT4.alloc (.cells #[.int .u8 0, .int .u64 0, .string ⟨#[]⟩, .int .u8 0, .slice none 0 0] 25)).alloc (.cells #[.int .u8 1, .int .u64 2, .string ⟨#[]⟩, .int .u8 0, .slice none 0 0] 25)).alloc (.cells #[.int .u8 2, .int .u64 0, .string ⟨#[97]⟩, .int .u8 0, .slice none 0 0, .int .u8 5, .int .u64 0, .string ⟨#[98]⟩, .int .u8 0, .slice (some ⟨x4.heap.size + 1, 0, none⟩) 1 1] 25)).alloc (.cells #[.int .u8 3, .int .u64 0, .string ⟨#[]⟩, .int .u8 1, .slice (some ⟨x4.heap.size + 1 + 1, 0, none⟩) 2 2] 25)))) | (go_at_call 10; ((with_reducible refine (tl _ _ hW4 hT4').mono ?_); (rintro e x5 ⟨⟨ml, cl, rfl⟩, hb5⟩); have hT5 := hT4'.of hb5; have hrow5 := rowG_b (rowG_alloc (rowG_alloc (rowG_alloc (rowG_alloc hrow4 _) _) _) _) hb5; have hrowW := rowG_b (rowG_at #[.int .u8 3, .int .u64 0, .string ⟨#[]⟩, .int .u8 1, .slice (some ⟨x4.heap.size + 1 + 1, 0, none⟩) 2 2] 25 _ (x4.heap.size + 1 + 1 + 1) (by simp)) hb5; have hE5 := (((((hE4.of (aB (Below.refl _ _) _)).of (aB (Below.refl _ _) _)).of (aB (Below.refl _ _) _)).of (aB (Below.refl _ _) _))).of hb5; have hW5 := hW4.of hb5; have p0 := hrow5.1 0 (by simp); have p1 := hrow5.1 1 (by simp); have p2 := hrow5.1 2 (by simp); have p3 := hrow5.1 3 (by simp); have p4 := hrow5.1 4 (by simp); have q0 := hrowW.1 0 (by simp); have q1 := hrowW.1 1 (by simp); have q2 := hrowW.1 2 (by simp); have q3 := hrowW.1 3 (by simp); have q4 := hrowW.1 4 (by simp); have l5 := hrow5.2.2; have lW := hrowW.2.2)) | (go_at_call 11; ((with_reducible refine (sm _ _ _ _ hE5 hW5).mono ?_); (rintro e x6 ⟨rfl, hb6⟩); have hT6 := hT5.of hb6; have hrow6 := rowG_b hrowW hb6; have hW6 := hW5.of hb6; have r0 := hrow6.1 0 (by simp); have r1 := hrow6.1 1 (by simp); have r2 := hrow6.1 2 (by simp); have r3 := hrow6.1 3 (by simp); have r4 := hrow6.1 4 (by simp); have l6 := hrow6.2.2)) | (go_at_call 19; ((with_reducible refine (kT _ hT6).mono ?_); (rintro e x7 ⟨rfl, hb7⟩); have hT7 := hT6.of hb7; have hrow7 := rowG_b hrow6 hb7; have hW7 := hW6.of hb7; have t0 := hrow7.1 0 (by simp); have t1 := hrow7.1 1 (by simp); have t2 := hrow7.1 2 (by simp); have t3 := hrow7.1 3 (by simp); have t4 := hrow7.1 4 (by simp); have l7 := hrow7.2.2)) | (go_at_call 9; ((with_reducible refine (ck _ _ hW7 hT7).mono ?_); (rintro e x8 ⟨rfl, hb8⟩); have hT8 := hT7.of hb8)) | (go_at_call 9; ((with_reducible refine (c0 _ hT8).mono ?_); (rintro e x9 ⟨rfl, hb9⟩))))
  go_ret
  have b3 := tr (tr hb1 hb2) hb3
  have b4 := tr (aB b3 _) hb4
  have b5 := tr (aB (aB (aB (aB b4 _) _) _) _) hb5
  exact ⟨rfl, tr (tr (tr (tr b5 hb6) hb7) hb8) hb9⟩
end Go.Proofs.YtnblnmehfhkfmaaGreatDoor
