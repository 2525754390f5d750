/- Contract of the reader of programs: a statement, by its first word. -/
import Derived.Test.YtfbjljcmmbdhkaaGreatDoorD41
import Derived.Test.YtfbjljcmmbdhkaaGreatDoorD39
import Derived.MapKept
import Derived.StringKeys
import Derived.Test.YtfbjljcmmbdhkaaGreatDoorD05
namespace Go.Proofs.YtfbjljcmmbdhkaaGreatDoor
set_option linter.unusedVariables false
set_option linter.unusedSimpArgs false
set_option maxRecDepth 100000
set_option maxHeartbeats 200000000
open Go.ChangeShapes Go.WideShapes Go.ChangeAt Go.RowKit
theorem strI {a b : List UInt8} (h : str a = str b) : a = b := by
 have := congrArg (fun b : ByteArray => b.data.toList) h
 simpa only [zXj] using this
theorem same_str (a b : List UInt8) : Instr.sameNow .string (.string (str a)) (.string (str b)) = some (decide (a = b)) := by
 obtain ⟨r, hr, hi⟩ := MapKept.sameNow_of_keys (d := .string) (a := .string (str a)) (b := .string (str b)) trivial trivial
 rw [hr]
 congr 1
 by_cases h : a = b
 ·subst h; simpa using hi.2 rfl
 ·cases r with
  | false => simp [h]
  | true => exact absurd (strI (by simpa using hi.1 rfl)) h
def readOf (s : List UInt8) : Option (Option (Nat × Value)) := Instr.findNow .string (.string (str s)) readsM.toList 0
theorem read_none {s : List UInt8} (h : s ≠ wLet ∧ s ≠ wBuf ∧ s ≠ wIf ∧ s ≠ zZz ∧ s ≠ wFor ∧ s ≠ zXf ∧ s ≠ zQt ∧ s ≠ zKw ∧ s ≠ yQp ∧ s ≠ zKs ∧ s ≠ yQh) : Instr.findNow .string (.string (str s)) readsM.toList 0 = some none := by
 obtain ⟨h1, h2, h3, h4, h5, h6, h7, h8, h9, h10, h11⟩ := h
 simp [readsM, Instr.findNow, same_str, h1, h2, h3, h4, h5, h6, h7, h8, h9, h10, h11]
theorem tM : Tryz.prog.underlying 116 = some (.map 9 155) := by kernel_rfl
theorem look_some {w : World} {mb : Nat} (hb : w.heap[mb]? = some (.map readsM 11)) {s : List UInt8} {j : Nat} {u : Value} (h : Instr.findNow .string (.string (str s)) readsM.toList 0 = some (some (j, u))) :
 (Instr.lookup 116 (.map (some mb)) (.string (str s)) true).run Tryz.prog w = .ok (.tuple #[u, .bool true]) w := by
 have hc : (Instr.checkKey false 10000 9 (.string (str s))).run Tryz.prog w = .ok () w := MapKept.run_checkKey (P := Tryz.prog) (w := w) (kt := 9) (d := .string) (k := .string (str s)) Tryz.underlying9 trivial false 9999
 have he : readsM.isEmpty = false := rfl
 have hf := MapKept.run_findKey (P := Tryz.prog) (w := w) (kt := 9) Tryz.underlying9 h
 simp [Instr.lookup, run_underlying tM, MapKept.run_getObj_map hb, he, hc, hf, Result.andThen]
theorem look_none' {w : World} {mb : Nat} (hb : w.heap[mb]? = some (.map readsM 11)) {s : List UInt8} (h : Instr.findNow .string (.string (str s)) readsM.toList 0 = some none) :
 (Instr.lookup 116 (.map (some mb)) (.string (str s)) true).run Tryz.prog w = .ok (.tuple #[.nilFunc, .bool false]) w := by
 have hc : (Instr.checkKey false 10000 9 (.string (str s))).run Tryz.prog w = .ok () w := MapKept.run_checkKey (P := Tryz.prog) (w := w) (kt := 9) (d := .string) (k := .string (str s)) Tryz.underlying9 trivial false 9999
 have he : readsM.isEmpty = false := rfl
 have hf := MapKept.run_findKey (P := Tryz.prog) (w := w) (kt := 9) Tryz.underlying9 h
 have hz : (zeroValue 155).run Tryz.prog w = .ok .nilFunc w := by kernel_rfl
 simp [Instr.lookup, run_underlying tM, MapKept.run_getObj_map hb, he, hc, hf, hz, Result.andThen]
theorem stm_m {w : World} {rb mb : Nat} {v : Value} {T : List (Tk × Int)} {p d n : Nat} :
 (∀ (h : IsRs w rb mb v T p d n) (hd : d ≤ 40) (hn : ¬ n = 400) (j f : Nat) (R : Rz St) (hf : Instr.findNow .string (.string (str (txt (zQb T) p))) readsM.toList 0 = some (some (j, .func (.func f) #[] #[]))) (hne : txt (zQb T) p ≠ []) (hcf : ∀ W : World, (callFunc f #[.pointer (some ⟨rb, 0, none⟩)]).run Tryz.prog W = .ok (.enter f #[.pointer (some ⟨rb, 0, none⟩)]) W) (hC : ∀ {W : World}, IsRs W rb mb v T (p + 1) d (n + 1) → Calls Tryz.prog f #[.pointer (some ⟨rb, 0, none⟩)] W (RP VS W rb mb v T d R)), Calls Tryz.prog 162 #[.pointer (some ⟨rb, 0, none⟩)] w (RP VS w rb mb v T d R)) ∧
 (∀ (h : IsRs w rb mb v T p d n) (hd : d ≤ 40) (hn : ¬ n = 400) (hf : Instr.findNow .string (.string (str (txt (zQb T) p))) readsM.toList 0 = some none), Calls Tryz.prog 162 #[.pointer (some ⟨rb, 0, none⟩)] w (RP VS w rb mb v T d (setR (zQb T) p (n + 1)))) := by
 refine ⟨(@fun h hd hn j f R hf hne hcf hC => have k1 : Nat := 0; ?_), (@fun h hd hn hf => have k2 : Nat := 0; ?_)⟩
 all_goals
  first
  | (replace k1 := k1
     have hm := h.more (.inl hne))
  | (replace k2 := k2)
  obtain ⟨t, z, ht⟩ := h.tok
  obtain ⟨b, o, N, c, c0, hpN, hN, hb, q0, q1, q2, q3⟩ := ht.at_
  rw [ht.txt_] at hf
  have hbn : ¬ b = rb := fun e => h.ne (by
   have hv : v = .slice (some ⟨b, o, none⟩) N c := Option.some.inj (h.c0.symm.trans c0)
   have hT : ¬ T = [] := fun e => by have := h.lt; rw [e] at this; simp at this
   unfold ob
   rw [if_neg hT, hv, e]; rfl)
  have hbn' : ¬ rb = b := fun e => hbn e.symm
  have c1 := h.c1
  have c2 := h.c2
  have c3 := h.c3
  have c4 := h.c4
  have hfz := h.f
  have hrl := h.rl
  have hgt : ¬ (40 < (d : Int)) := by omega
  have h400 : ((n : Int) == 400) = false := by simp; omega
  have hw1 : IntKind.i64.wrap ((n : Int) + 1) = ((n + 1 : Nat) : Int) := by rw [IntKind.wrap_i64]; have := h.hn; omega
  first
  | (replace k1 := k1
     have hw2 : IntKind.i64.wrap ((p : Int) + 1) = ((p + 1 : Nat) : Int) := by rw [IntKind.wrap_i64]; have := h.lt; have := h.len; omega
     have hlk := fun (W : World) (hW : W.heap[mb]? = some (.map readsM 11)) => look_some hW hf)
  | (replace k2 := k2
     obtain ⟨zz, hlk⟩ : ∃ zz, ∀ (W : World) (hW : W.heap[mb]? = some (.map readsM 11)), (Instr.lookup 116 (.map (some mb)) (.string (str t.t)) true).run Tryz.prog W = .ok (.tuple #[zz, .bool false]) W := ⟨_, fun W hW => look_none' hW hf⟩)
  have HH := Lib.hid h
  clear ht h hf
  go_enter Tryz.func162, Tryz.ntmps162
  go_wp2
  have hI : ∀ k, IsRs (((w.setCell ⟨rb, 4, none⟩ (.int .i64 ((n : Int) + 1))).alloc (.cells #[.int .u8 0, .string ⟨#[]⟩, .string ⟨#[]⟩, .bool false, .bool false, .slice none 0 0, .slice none 0 0, .slice none 0 0, .slice none 0 0] 52)).drewN k) rb mb v T p d (n + 1) := fun k => ((HH.out.setN (q := n + 1) (by have := HH.out.hn; omega)).of (aB (Below.refl _ _) _)).drewN k
  have hlk' := fun k => hlk _ (hI k).mp
  clear hlk
  go_quiet (fail)
  first
  | (replace k1 := k1
     have hI2 : IsRs ((((w.setCell ⟨rb, 4, none⟩ (.int .i64 ((n : Int) + 1))).alloc (.cells #[.int .u8 0, .string ⟨#[]⟩, .string ⟨#[]⟩, .bool false, .bool false, .slice none 0 0, .slice none 0 0, .slice none 0 0, .slice none 0 0] 52)).drewN nq).setCell ⟨rb, 1, none⟩ (.int .i64 ((p : Int) + 1))) rb mb v T (p + 1) d (n + 1) := (hI nq).setP hm)
  | (replace k2 := k2
     have hI2 : IsRs (((w.setCell ⟨rb, 4, none⟩ (.int .i64 ((n : Int) + 1))).alloc (.cells #[.int .u8 0, .string ⟨#[]⟩, .string ⟨#[]⟩, .bool false, .bool false, .slice none 0 0, .slice none 0 0, .slice none 0 0, .slice none 0 0] 52)).drewN nq) rb mb v T p d (n + 1) := hI nq)
  first
  | (replace k1 := k1
     have hP1 : Only (fun j => j = rb) w ((((w.setCell ⟨rb, 4, none⟩ (.int .i64 ((n : Int) + 1))).alloc (.cells #[.int .u8 0, .string ⟨#[]⟩, .string ⟨#[]⟩, .bool false, .bool false, .slice none 0 0, .slice none 0 0, .slice none 0 0, .slice none 0 0] 52)).drewN nq).setCell ⟨rb, 1, none⟩ (.int .i64 ((p : Int) + 1))) := os1 (zXn (zQc (os1 (or1 rb w) _ _) _) nq) _ _)
  | (replace k2 := k2
     have hP1 : Only (fun j => j = rb) w (((w.setCell ⟨rb, 4, none⟩ (.int .i64 ((n : Int) + 1))).alloc (.cells #[.int .u8 0, .string ⟨#[]⟩, .string ⟨#[]⟩, .bool false, .bool false, .slice none 0 0, .slice none 0 0, .slice none 0 0, .slice none 0 0] 52)).drewN nq) := zXn (zQc (os1 (or1 rb w) _ _) _) nq)
  first
  | (replace k1 := k1
     have hZ1 : rowG #[.int .u8 0, .string ⟨#[]⟩, .string ⟨#[]⟩, .bool false, .bool false, .slice none 0 0, .slice none 0 0, .slice none 0 0, .slice none 0 0] ((((w.setCell ⟨rb, 4, none⟩ (.int .i64 ((n : Int) + 1))).alloc (.cells #[.int .u8 0, .string ⟨#[]⟩, .string ⟨#[]⟩, .bool false, .bool false, .slice none 0 0, .slice none 0 0, .slice none 0 0, .slice none 0 0] 52)).drewN nq).setCell ⟨rb, 1, none⟩ (.int .i64 ((p : Int) + 1))) w.heap.size := zQm (j := rb) (o := 1) _ (zQf #[.int .u8 0, .string ⟨#[]⟩, .string ⟨#[]⟩, .bool false, .bool false, .slice none 0 0, .slice none 0 0, .slice none 0 0, .slice none 0 0] 52 (w.setCell ⟨rb, 4, none⟩ (.int .i64 ((n : Int) + 1))) w.heap.size (by simp)) (by omega))
  | (replace k2 := k2
     have hZ1 : rowG #[.int .u8 0, .string ⟨#[]⟩, .string ⟨#[]⟩, .bool false, .bool false, .slice none 0 0, .slice none 0 0, .slice none 0 0, .slice none 0 0] (((w.setCell ⟨rb, 4, none⟩ (.int .i64 ((n : Int) + 1))).alloc (.cells #[.int .u8 0, .string ⟨#[]⟩, .string ⟨#[]⟩, .bool false, .bool false, .slice none 0 0, .slice none 0 0, .slice none 0 0, .slice none 0 0] 52)).drewN nq) w.heap.size := (zQf #[.int .u8 0, .string ⟨#[]⟩, .string ⟨#[]⟩, .bool false, .bool false, .slice none 0 0, .slice none 0 0, .slice none 0 0, .slice none 0 0] 52 (w.setCell ⟨rb, 4, none⟩ (.int .i64 ((n : Int) + 1))) w.heap.size (by simp)))
  clear hI
  go_wp2_with (first
   | (replace k1 := k1; ((with_reducible refine (hC hI2).mono ?_); (rintro e w2 ⟨hO2, hR2⟩); (have hP2 := hP1.trans hO2); (have hs2 := hO2.size); (simp at hs2); (have hZ2 := zQa hZ1 hO2 (by omega)); (rcases R with ⟨c1, e1⟩ | ⟨x1, y1, m1⟩) <;> (first | (unfold Flt at hR2; subst hR2) | (obtain ⟨hI3, z1, rfl, hV1⟩ := hR2; (obtain ⟨K1, rfl, -⟩ := yZl hV1)))))
   | (replace k2 := k2; (go_at_call 180; (with_reducible refine (put_any hI2).mono ?_); (rintro e w2 ⟨hO2, hR2⟩); (have hP2 := hP1.trans hO2); (have hs2 := hO2.size); (simp at hs2); (have hZ2 := zQa hZ1 hO2 (by omega)); (rcases r1 : setR (zQb T) p (n + 1) with ⟨c1, e1⟩ | ⟨x1, y1, m1⟩) <;> (rw [r1] at hR2; first | (unfold Flt at hR2; subst hR2) | (obtain ⟨hI3, z1, rfl, hV1⟩ := hR2; (obtain ⟨K1, rfl, -⟩ := yZl hV1)))))
   | (with_reducible refine st9 rfl _ _ rfl (w.heap.size) rfl rfl hZ2 ?_; intro wF hF hOF)
   )
  all_goals first
   | (replace k1 := k1; (refine ⟨rfl, ?_⟩; exact .er hP2))
   | (replace k2 := k2; (refine ⟨rfl, ?_⟩; (first | rw [r1] | skip); exact .er hP2))
   | skip
  have hOn : Only (fun j => w.heap.size ≤ j) w2 wF := hOF.mono (fun j e => by have e2 : j = w.heap.size := e; omega)
  have hsF := hOF.size
  refine bodyPost_ret (zJv rfl _ _ (w.heap.size) _ _ _ _ _ _ _ _ _ rfl hF) rfl ?_
  first
  | (replace k1 := k1)
  | (replace k2 := k2
     (first | rw [r1] | skip))
  exact .ok (hP2.old hOn (fun j hj => .inr hj)) (HH.out.newer hI3 hOn) (show VS w wF (.agg #[.int .u8 (K1.k : Int), .string (str K1.nm), .string (str K1.fr), .bool K1.sec, .bool K1.mu, .slice K1.mx K1.nx K1.cx, .slice K1.ma K1.na K1.ca, .slice K1.mb K1.nb K1.cb, .slice K1.ml K1.nl K1.cl]) x1 from (IsSt.only hV1 hOF (fun b hb e => by simp at *; omega)).mono (fun b hb => ⟨by simp at *; omega, by simp at *; omega⟩))
theorem stm_deep {w : World} {rb mb : Nat} {v : Value} {T : List (Tk × Int)} {p n : Nat} (h : IsRs w rb mb v T p 41 n) :
 Calls Tryz.prog 162 #[.pointer (some ⟨rb, 0, none⟩)] w (RP VS w rb mb v T 41 (.er 70 p)) := by
 have c3 := h.c3
 have hrl := h.rl
 have hS := zKo (h.of (aB (Below.refl _ _) (.cells #[.int .u8 0, .string ⟨#[]⟩, .string ⟨#[]⟩, .bool false, .bool false, .slice none 0 0, .slice none 0 0, .slice none 0 0, .slice none 0 0] 52))) 70 70 rfl
 clear h
 go_enter Tryz.func162, Tryz.ntmps162
 go_wp2_with (go_at_call 113; ((with_reducible refine hS.mono ?_); (rintro e w2 ⟨he, k, rfl⟩); (unfold Flt at he; subst he)))
 exact ⟨rfl, .er (zXn (ob1 rb (aB (Below.refl _ _) _)) k)⟩
theorem stm_long {w : World} {rb mb : Nat} {v : Value} {T : List (Tk × Int)} {p d : Nat} (h : IsRs w rb mb v T p d 400) (hd : d ≤ 40) :
 Calls Tryz.prog 162 #[.pointer (some ⟨rb, 0, none⟩)] w (RP VS w rb mb v T d (.er 5 p)) := by
 have c3 := h.c3
 have c4 := h.c4
 have hrl := h.rl
 have hgt : ¬ (40 < (d : Int)) := by omega
 have hS := zKo (h.of (aB (Below.refl _ _) (.cells #[.int .u8 0, .string ⟨#[]⟩, .string ⟨#[]⟩, .bool false, .bool false, .slice none 0 0, .slice none 0 0, .slice none 0 0, .slice none 0 0] 52))) 5 5 rfl
 clear h
 go_enter Tryz.func162, Tryz.ntmps162
 go_wp2_with (go_at_call 113; ((with_reducible refine hS.mono ?_); (rintro e w2 ⟨he, k, rfl⟩); (unfold Flt at he; subst he)))
 exact ⟨rfl, .er (zXn (ob1 rb (aB (Below.refl _ _) _)) k)⟩
theorem cf_let (rb : Nat) (W : World) : (callFunc 101 #[.pointer (some ⟨rb, 0, none⟩)]).run Tryz.prog W = .ok (.enter 101 #[.pointer (some ⟨rb, 0, none⟩)]) W := by kernel_rfl
theorem cf_buf (rb : Nat) (W : World) : (callFunc 102 #[.pointer (some ⟨rb, 0, none⟩)]).run Tryz.prog W = .ok (.enter 102 #[.pointer (some ⟨rb, 0, none⟩)]) W := by kernel_rfl
theorem cf_branch (rb : Nat) (W : World) : (callFunc 103 #[.pointer (some ⟨rb, 0, none⟩)]).run Tryz.prog W = .ok (.enter 103 #[.pointer (some ⟨rb, 0, none⟩)]) W := by kernel_rfl
theorem cf_while (rb : Nat) (W : World) : (callFunc 104 #[.pointer (some ⟨rb, 0, none⟩)]).run Tryz.prog W = .ok (.enter 104 #[.pointer (some ⟨rb, 0, none⟩)]) W := by kernel_rfl
theorem cf_count (rb : Nat) (W : World) : (callFunc 105 #[.pointer (some ⟨rb, 0, none⟩)]).run Tryz.prog W = .ok (.enter 105 #[.pointer (some ⟨rb, 0, none⟩)]) W := by kernel_rfl
theorem cf_view (rb : Nat) (W : World) : (callFunc 106 #[.pointer (some ⟨rb, 0, none⟩)]).run Tryz.prog W = .ok (.enter 106 #[.pointer (some ⟨rb, 0, none⟩)]) W := by kernel_rfl
theorem cf_edit (rb : Nat) (W : World) : (callFunc 107 #[.pointer (some ⟨rb, 0, none⟩)]).run Tryz.prog W = .ok (.enter 107 #[.pointer (some ⟨rb, 0, none⟩)]) W := by kernel_rfl
theorem cf_move (rb : Nat) (W : World) : (callFunc 108 #[.pointer (some ⟨rb, 0, none⟩)]).run Tryz.prog W = .ok (.enter 108 #[.pointer (some ⟨rb, 0, none⟩)]) W := by kernel_rfl
theorem cf_open (rb : Nat) (W : World) : (callFunc 109 #[.pointer (some ⟨rb, 0, none⟩)]).run Tryz.prog W = .ok (.enter 109 #[.pointer (some ⟨rb, 0, none⟩)]) W := by kernel_rfl
theorem cf_call (rb : Nat) (W : World) : (callFunc 110 #[.pointer (some ⟨rb, 0, none⟩)]).run Tryz.prog W = .ok (.enter 110 #[.pointer (some ⟨rb, 0, none⟩)]) W := by kernel_rfl
theorem cf_seal (rb : Nat) (W : World) : (callFunc 111 #[.pointer (some ⟨rb, 0, none⟩)]).run Tryz.prog W = .ok (.enter 111 #[.pointer (some ⟨rb, 0, none⟩)]) W := by kernel_rfl
theorem fw_let : Instr.findNow .string (.string (str wLet)) readsM.toList 0 = some (some (0, .func (.func 101) #[] #[])) := by kernel_rfl
theorem fw_buf : Instr.findNow .string (.string (str wBuf)) readsM.toList 0 = some (some (1, .func (.func 102) #[] #[])) := by kernel_rfl
theorem fw_branch : Instr.findNow .string (.string (str wIf)) readsM.toList 0 = some (some (2, .func (.func 103) #[] #[])) := by kernel_rfl
theorem fw_while : Instr.findNow .string (.string (str zZz)) readsM.toList 0 = some (some (3, .func (.func 104) #[] #[])) := by kernel_rfl
theorem fw_count : Instr.findNow .string (.string (str wFor)) readsM.toList 0 = some (some (4, .func (.func 105) #[] #[])) := by kernel_rfl
theorem fw_view : Instr.findNow .string (.string (str zXf)) readsM.toList 0 = some (some (5, .func (.func 106) #[] #[])) := by kernel_rfl
theorem fw_edit : Instr.findNow .string (.string (str zQt)) readsM.toList 0 = some (some (6, .func (.func 107) #[] #[])) := by kernel_rfl
theorem fw_move : Instr.findNow .string (.string (str zKw)) readsM.toList 0 = some (some (7, .func (.func 108) #[] #[])) := by kernel_rfl
theorem fw_open : Instr.findNow .string (.string (str yQp)) readsM.toList 0 = some (some (8, .func (.func 109) #[] #[])) := by kernel_rfl
theorem fw_call : Instr.findNow .string (.string (str zKs)) readsM.toList 0 = some (some (9, .func (.func 110) #[] #[])) := by kernel_rfl
theorem fw_seal : Instr.findNow .string (.string (str yQh)) readsM.toList 0 = some (some (10, .func (.func 111) #[] #[])) := by kernel_rfl
theorem statement_any {w : World} {rb mb : Nat} {v : Value} {T : List (Tk × Int)} {p d n : Nat} (h : IsRs w rb mb v T p d n) (hd : d ≤ 40) {blk : Nat → Nat → Rz (List St)} (hK : BlkC rb mb v T d blk) :
 Calls Tryz.prog 162 #[.pointer (some ⟨rb, 0, none⟩)] w (RP VS w rb mb v T d (staR (zQb T) blk p n)) := by
 unfold staR
 by_cases hn : n = 400
 ·rw [if_pos hn]; subst hn; exact stm_long h hd
 rw [if_neg hn]
 unfold stR
 by_cases c1 : txt (zQb T) p = wLet
 ·rw [if_pos c1]
  exact stm_m.1 h hd hn 0 _ _ (by rw [c1]; exact fw_let) (by rw [c1]; decide) (cf_let rb) (fun h => let_any h)
 rw [if_neg c1]
 by_cases c2 : txt (zQb T) p = wBuf
 ·rw [if_pos c2]
  exact stm_m.1 h hd hn 1 _ _ (by rw [c2]; exact fw_buf) (by rw [c2]; decide) (cf_buf rb) (fun h => buf_any h)
 rw [if_neg c2]
 by_cases c3 : txt (zQb T) p = wIf
 ·rw [if_pos c3]
  exact stm_m.1 h hd hn 2 _ _ (by rw [c3]; exact fw_branch) (by rw [c3]; decide) (cf_branch rb) (fun h => branch_any h hK)
 rw [if_neg c3]
 by_cases c4 : txt (zQb T) p = zZz
 ·rw [if_pos c4]
  exact stm_m.1 h hd hn 3 _ _ (by rw [c4]; exact fw_while) (by rw [c4]; decide) (cf_while rb) (fun h => while_any h hK)
 rw [if_neg c4]
 by_cases c5 : txt (zQb T) p = wFor
 ·rw [if_pos c5]
  exact stm_m.1 h hd hn 4 _ _ (by rw [c5]; exact fw_count) (by rw [c5]; decide) (cf_count rb) (fun h => count_any h hK)
 rw [if_neg c5]
 by_cases c6 : txt (zQb T) p = zXf
 ·rw [if_pos c6]
  exact stm_m.1 h hd hn 5 _ _ (by rw [c6]; exact fw_view) (by rw [c6]; decide) (cf_view rb) (fun h => view_any h hK)
 rw [if_neg c6]
 by_cases c7 : txt (zQb T) p = zQt
 ·rw [if_pos c7]
  exact stm_m.1 h hd hn 6 _ _ (by rw [c7]; exact fw_edit) (by rw [c7]; decide) (cf_edit rb) (fun h => edit_any h hK)
 rw [if_neg c7]
 by_cases c8 : txt (zQb T) p = zKw
 ·rw [if_pos c8]
  exact stm_m.1 h hd hn 7 _ _ (by rw [c8]; exact fw_move) (by rw [c8]; decide) (cf_move rb) (fun h => move_any h)
 rw [if_neg c8]
 by_cases c9 : txt (zQb T) p = yQp
 ·rw [if_pos c9]
  exact stm_m.1 h hd hn 8 _ _ (by rw [c9]; exact fw_open) (by rw [c9]; decide) (cf_open rb) (fun h => open_any h)
 rw [if_neg c9]
 by_cases c10 : txt (zQb T) p = zKs
 ·rw [if_pos c10]
  exact stm_m.1 h hd hn 9 _ _ (by rw [c10]; exact fw_call) (by rw [c10]; decide) (cf_call rb) (fun h => call_any h)
 rw [if_neg c10]
 by_cases c11 : txt (zQb T) p = yQh
 ·rw [if_pos c11]
  exact stm_m.1 h hd hn 10 _ _ (by rw [c11]; exact fw_seal) (by rw [c11]; decide) (cf_seal rb) (fun h => seal_any h)
 rw [if_neg c11]
 exact stm_m.2 h hd hn (read_none ⟨c1, c2, c3, c4, c5, c6, c7, c8, c9, c10, c11⟩)
theorem jXk : (Tryz.prog.info? 52).map (fun i => (i.zero, i.size, i.bytes)) = some (some (.agg #[.int .u8 0, .string ⟨#[]⟩, .string ⟨#[]⟩, .bool false, .bool false, .slice none 0 0, .slice none 0 0, .slice none 0 0, .slice none 0 0]), 9, 144) := by kernel_rfl
theorem vs_sx {w w' : World} {u : Value} {x : St} (h : VS w w' u x) : ∃ K : Sx, u = .agg #[.int .u8 (K.k : Int), .string (str K.nm), .string (str K.fr), .bool K.sec, .bool K.mu, .slice K.mx K.nx K.cx, .slice K.ma K.na K.ca, .slice K.mb K.nb K.cb, .slice K.ml K.nl K.cl] ∧ K.x = x ∧ K.is (fun b => w.heap.size ≤ b ∧ b < w'.heap.size) w' := by
 obtain ⟨K, rfl, e, -⟩ := yZl h
 exact ⟨K, rfl, e, by unfold Sx.is; rw [e]; exact h⟩
theorem xKm {rb mb : Nat} {v : Value} {T : List (Tk × Int)} {d : Nat} (hd : d ≤ 40) (one : Nat → Nat → Rz St) (g : Nat → Nat) (hg1 : ∀ n, n ≤ 400 → 1 ≤ g n ∧ g n ≤ 401) (hg2 : ∀ p n x q m, n ≤ 400 → one p n = .ok x q m → g m < g n)
 (hOne : ∀ {W : World} {p n : Nat}, IsRs W rb mb v T p (d + 1) n → Calls Tryz.prog 162 #[.pointer (some ⟨rb, 0, none⟩)] W (RP VS W rb mb v T (d + 1) (one p n))) :
 BlkC rb mb v T d (fun p n => (takR (zQb T) [123] p n).next fun _ p n => blkL (zQb T) one (g n) [] p n) := by
 intro w p n h
 show Calls Tryz.prog 142 #[.pointer (some ⟨rb, 0, none⟩)] w (RP VB w rb mb v T d ((takR (zQb T) [123] p n).next fun _ p n => blkL (zQb T) one (g n) [] p n))
 obtain ⟨i0, hi, hz0, hz1, hz2⟩ := info_parts jXk
 have hrl := h.rl
 have hT0 : Calls Tryz.prog 140 #[.pointer (some ⟨rb, 0, none⟩), .string ⟨#[123]⟩] w (RP VU w rb mb v T d (takR (zQb T) [123] p n)) := zXl h [123] (by decide)
 cases r1 : takR (zQb T) [123] p n with
 | er c q =>
  rw [r1] at hT0
  simp only [Rz.next]
  go_enter Tryz.func142, Tryz.ntmps142
  go_wp2_with (go_at_call 140; ((with_reducible refine hT0.mono ?_); (rintro e w1 ⟨hO1, he⟩); (unfold Flt at he; subst he)))
  exact ⟨rfl, .er hO1⟩
 | ok u1 q m =>
  rw [r1] at hT0
  simp only [Rz.next]
  have hm : m ≤ 400 := by have := zZt r1; have := h.hn; omega
  obtain ⟨R, hR⟩ : ∃ R, blkL (zQb T) one (g m) [] q m = R := ⟨_, rfl⟩
  rw [hR]
  have hw1 : IntKind.i64.wrap ((d : Int) + 1) = ((d + 1 : Nat) : Int) := by rw [IntKind.wrap_i64]; omega
  have hw2 : IntKind.i64.wrap ((d : Int) + 1 - 1) = (d : Int) := by rw [IntKind.wrap_i64]; omega
  go_enter Tryz.func142, Tryz.ntmps142
  go_wp2_with (go_at_call 140; ((with_reducible refine hT0.mono ?_); (rintro e w1 ⟨hO1, hI1, u, rfl, hV1⟩); (unfold VU at hV1; subst hV1); (have c3 := hI1.c3); (have hfz := hI1.f)))
  obtain ⟨W, hW⟩ : ∃ W, w1.setCell ⟨rb, 3, none⟩ (.int .i64 ((d : Int) + 1)) = W := ⟨_, rfl⟩
  have hIW : IsRs W rb mb v T q (d + 1) m := by rw [← hW]; exact hI1.setD (q := d + 1) (by omega)
  have hPW : Only (fun j => j = rb) w W := by rw [← hW]; exact os1 hO1 _ _
  rw [hW]
  clear hW hT0 c3 hfz
  go_loopw [2] (fun lv wr => ∃ (L : List Sx) (M f p n : Nat), M = L.length ∧ n ≤ 400 ∧ M + g n ≤ 401 ∧ g n ≤ f ∧ blkL (zQb T) one f (L.map (·.x)) p n = R ∧ wr.ownsRow w.heap.size 52 9 lv M (sxs L) ∧ IsRs wr rb mb v T p (d + 1) n ∧ Only (fun j => j = rb) w wr ∧ Hid (∀ K ∈ L, K.is (fun b => w.heap.size ≤ b ∧ b < wr.heap.size ∧ ¬ lv.ownBlock = some b) wr)) (fun lv _ => 401 - yXc lv)
  case atStart => exact ⟨[], 0, g m, q, m, rfl, hm, by have := hg1 m hm; omega, Nat.le_refl _, hR, World.ownsRow_nil _ _ _ _, hIW, hPW, Lib.hid (fun K hK => by simp at hK)⟩
  case round =>
   obtain ⟨L, M, f, p, n, hM, hn, hMg, hgf, hRR, hown, hI, hP, HK⟩ := hrel
   have hgn := hg1 n hn
   obtain ⟨f, rfl⟩ : ∃ f', f = f' + 1 := ⟨f - 1, by omega⟩
   have HM := Lib.hid hM
   have HF := Lib.hid hgf
   have HG := Lib.hid hMg
   have HN := Lib.hid hn
   have HGN := Lib.hid hgn
   have hsr := hP.size
   obtain ⟨a, c, rfl⟩ := zKb hown
   by_cases hc : txt (zQb T) p = [125]
   ·have hH0 : Calls Tryz.prog 137 #[.pointer (some ⟨rb, 0, none⟩), .string ⟨#[125]⟩] wr fun e w' => e = .returned (.bool true) ∧ Only (fun j => j = rb) wr w' ∧ IsRs w' rb mb v T (p + 1) (d + 1) n := by have := zXd hI [125] (by decide); rw [yJd hc, yKn hc] at this; exact this
    have hRe : R = .ok (L.map (·.x)) (p + 1) n := by rw [← hRR]; unfold blkL; rw [if_pos hc]
    clear hM hgf hMg hn hgn
    go_wp2_with (go_at_call 137; ((with_reducible refine hH0.mono ?_); (rintro e w3 ⟨rfl, hO3, hI3⟩); (have c3 := hI3.c3); (rw [Int.natCast_add] at c3); (have hfz := hI3.f)))
    go_ret
    rw [hRe]
    obtain ⟨mk, ck, hmk, hkk⟩ := xKz hown HM.out HK.out
    simp only [Value.slice.injEq, true_and] at hmk
    obtain ⟨rfl, rfl⟩ := hmk
    exact .ok (u := .slice a M c) (os1 (hP.trans hO3) _ _) (hI3.setD (by omega)) ⟨a, c, by rw [List.length_map, ← HM.out], by rw [List.length_map, ← HM.out]; have := HG.out; omega, ((hkk.only hO3 (fun b hb e => by have := hb.1; have e2 : b = rb := e; omega)).only (os1 (or1 rb w3) 3 (.int .i64 (d : Int))) (fun b hb e => by have := hb.1; have e2 : b = rb := e; omega)).mono (fun b hb => ⟨hb.1, by have := hO3.size; have := hb.2; simp only [World.size_setCell]; omega⟩)⟩
   have hH0 : Calls Tryz.prog 137 #[.pointer (some ⟨rb, 0, none⟩), .string ⟨#[125]⟩] wr fun e w' => e = .returned (.bool false) ∧ Only (fun j => j = rb) wr w' ∧ IsRs w' rb mb v T p (d + 1) n := by have := zXd hI [125] (by decide); rw [yJe hc, yKo hc] at this; exact this
   rw [show blkL (zQb T) one (f + 1) (L.map (·.x)) p n = (one p n).next fun x p n => blkL (zQb T) one f (L.map (·.x) ++ [x]) p n from by rw [blkL, if_neg hc]] at hRR
   have h1 := fun w1 (hI1 : IsRs w1 rb mb v T p (d + 1) n) => hOne hI1
   cases r5 : one p n with
   | er c5 q5 =>
    rw [r5] at hRR h1
    simp only [Rz.next] at hRR
    rw [← hRR]
    clear hM hgf hMg hn hgn hRR
    go_wp2_with (first
     | (go_at_call 137; ((with_reducible refine hH0.mono ?_); (rintro e w3 ⟨rfl, hO3, hI3⟩)))
     | (go_at_call 162; ((with_reducible refine (h1 _ hI3).mono ?_); (rintro e w5 ⟨hO5, he⟩); (unfold Flt at he; subst he))))
    exact ⟨rfl, .er ((hP.trans hO3).trans hO5)⟩
   | ok x5 q5 m5 =>
    rw [r5] at hRR h1
    simp only [Rz.next] at hRR
    have HL := Lib.hid (hg2 p n x5 q5 m5 hn r5)
    clear hM hgf hMg hn hgn
    go_wp2_with (first
     | (go_at_call 137; ((with_reducible refine hH0.mono ?_); (rintro e w3 ⟨rfl, hO3, hI3⟩)))
     | (go_at_call 162; ((with_reducible refine (h1 _ hI3).mono ?_); (rintro e w5 ⟨hO5, hI5, u5, rfl, hV5⟩); (obtain ⟨K5, rfl, e5, hK5⟩ := vs_sx hV5); (have hO35 := hO3.trans hO5); (have ho5 := zQy hown hO35 (fun j hj e => by have := zQu hown hj; have e2 : j = rb := e; omega))))
     | (at_builtin; refine wpList_append_lies _ rfl _ _ 39 rfl w.heap.size 52 i0 _ 9 144 Tryz.underlying39 hi hz0 hz1 hz2 rfl (by decide) _ M (sxs L) rfl (ho5.alloc _) ⟨w5.heap.size, 0, none⟩ 1 1 (sxs [K5]) rfl rfl ?cN ?c0 (by decide) ?c1 ?c2 ?c3 _ rfl ?_))
    case cN => exact zXe (sxs [K5]) 52 w5
    case c0 => exact yJq _
    case c1 => have := HG.out; unfold maxLen; omega
    case c2 => have := HG.out; omega
    case c3 => have := hO35.size; simp; omega
    obtain ⟨wa, hwa⟩ : ∃ wa, w5.alloc (.cells #[.int .u8 (K5.k : Int), .string (str K5.nm), .string (str K5.fr), .bool K5.sec, .bool K5.mu, .slice K5.mx K5.nx K5.cx, .slice K5.ma K5.na K5.ca, .slice K5.mb K5.nb K5.cb, .slice K5.ml K5.nl K5.cl] 52) = wa := ⟨_, rfl⟩
    have hba : Below w5.heap.size w5 wa := by rw [← hwa]; exact aB (Below.refl _ _) _
    intro gg cap' w6 hown6 hgrow hat hlt6
    rw [hwa] at hgrow
    have hsz : wa.heap.size = w5.heap.size + 1 := by rw [← hwa]; simp
    have hs5 := hO35.size
    have hog := zXc hgrow
    have hP5 : Only (fun j => j = rb) w w5 := hP.trans hO35
    have hIa : IsRs wa rb mb v T q5 (d + 1) m5 := hI5.of hba
    have hnew : ∀ j, some j = (Value.slice a M c).ownBlock → w.heap.size ≤ j := fun j hj => (zQu hown hj.symm).1
    have hI6 : IsRs w6 rb mb v T q5 (d + 1) m5 := h.newer hIa (hog.mono hnew)
    have hP6 : Only (fun j => j = rb) w w6 := (hP5.trans (ob1 rb hba)).old hog (fun j hj => .inr (hnew j hj))
    go_wp2
    go_roundw
    case rel =>
     have hall : ∀ K ∈ L ++ [K5], K.is (fun b => w.heap.size ≤ b ∧ b < wa.heap.size ∧ ¬ (Value.slice a M c).ownBlock = some b) wa := fun K hK => by
      rcases List.mem_append.1 hK with h1 | h1
      ·exact IsSt.mono (IsSt.of (IsSt.only (HK.out K h1) hO35 (fun b hb e => by have := hb.1; have e2 : b = rb := e; omega)) hba) (fun b hb => ⟨hb.1, by have := hb.2.1; omega, hb.2.2⟩)
      ·obtain rfl := List.mem_singleton.1 h1
       exact IsSt.mono (IsSt.of hK5 hba) (fun b hb => ⟨by have := hb.1; have := hO3.size; omega, by have := hb.2; omega, fun e => by have := zQu hown e; have := hb.1; have := hO3.size; omega⟩)
     have hall6 := xXf hgrow hat hsz _ hall (M + 1) cap'
     exact ⟨L ++ [K5], M + 1, f, q5, m5, by simp [HM.out], hI5.hn, by have := HG.out; have := HL.out; omega, by have := HF.out; have := HL.out; omega, by rw [← hRR]; simp [e5], by rw [yQi]; exact hown6, hI6, hP6, Lib.hid hall6⟩
    case measure => have := HG.out; have := HGN.out; simp [yXc]; omega
theorem xXz {T : List Tk} {one : Nat → Nat → Rz St} (ho : ∀ p n s q m, n ≤ 400 → one p n = .ok s q m → n ≤ m ∧ m ≤ 400) :
 ∀ (f : Nat) (l : List St) (p n : Nat) (r : List St) (q m : Nat), n ≤ 400 → blkL T one f l p n = .ok r q m → n ≤ m ∧ m ≤ 400 := by
 intro f
 induction f with
 | zero => intro l p n r q m _ h; cases h
 | succ f ih =>
  intro l p n r q m hn h
  unfold blkL at h
  split at h
  ·cases h; exact ⟨Nat.le_refl _, hn⟩
  ·obtain ⟨s, q1, m1, h1, h⟩ := zQk h
   obtain ⟨o1, o2⟩ := ho _ _ _ _ _ hn h1
   have := ih _ _ _ _ _ _ o2 h
   omega
theorem lisL_n {α : Type} {T : List Tk} {one : Nat → Nat → Rz α} {bh : List UInt8} (ho : ∀ p n x q m, one p n = .ok x q m → m = n) : ∀ (f : Nat) (l : List α) (p n : Nat) (r : List α) (q m : Nat), lisL T one bh f l p n = .ok r q m → m = n := by
 intro f
 induction f with
 | zero => intro l p n r q m h; cases h
 | succ f ih =>
  intro l p n r q m h
  unfold lisL at h
  split at h
  ·cases h; rfl
  ·obtain ⟨_, q1, m1, h1, h⟩ := zQk h
   have e1 := zZt h1
   split at h
   ·cases h
   ·obtain ⟨x2, q2, m2, h2, h⟩ := zQk h
    have := ho _ _ _ _ _ h2
    have := ih _ _ _ _ _ _ h
    omega
theorem jJo {α : Type} {T : List Tk} {one : Nat → Nat → Rz α} {bh : List UInt8} (ho : ∀ p n x q m, one p n = .ok x q m → m = n) {p n : Nat} {r : List α} {q m : Nat} (h : lisR T one bh p n = .ok r q m) : m = n := by
 unfold lisR at h
 split at h
 ·cases h; rfl
 ·obtain ⟨x2, q2, m2, h2, h⟩ := zQk h
  have := ho _ _ _ _ _ h2
  have := lisL_n ho _ _ _ _ _ _ _ h
  omega
theorem expN {T : List Tk} {p n : Nat} {x : Xp} {q m : Nat} (h : expR T p n = .ok x q m) : m = n := (xZw h).1
theorem namN {T : List Tk} {p n : Nat} {x : List UInt8} {q m : Nat} (h : namR T p n = .ok x q m) : m = n := (qQb h).1
theorem betN {T : List Tk} {a b : List UInt8} {p n : Nat} {x : Xp} {q m : Nat} (h : betR T a b p n = .ok x q m) : m = n := (jZo h).1
theorem argN {T : List Tk} {x y : List UInt8} {p n : Nat} {s : St} {q m : Nat} (h : argR T x y p n = .ok s q m) : m = n := by
 unfold argR at h
 obtain ⟨_, q1, m1, h1, h⟩ := zQk h
 obtain ⟨_, q2, m2, h2, h⟩ := zQk h
 obtain ⟨_, q3, m3, h3, h⟩ := zQk h
 obtain ⟨_, q4, m4, h4, h⟩ := zQk h
 cases h
 have e1 := zZt h1
 have e2 := jJo (fun p n x q m h => expN h) h2
 have e3 := jJo (fun p n x q m h => namN h) h3
 have e4 := zZt h4
 omega
theorem stR_mono {T : List Tk} {blk : Nat → Nat → Rz (List St)} (hB : ∀ p n l q m, n ≤ 400 → blk p n = .ok l q m → n ≤ m ∧ m ≤ 400) {p n : Nat} (hn : n ≤ 400) {s : St} {q m : Nat} (h : stR T blk p n = .ok s q m) : n ≤ m ∧ m ≤ 400 := by
 have hlen : ∀ mu p, lenR T blk mu p n = .ok s q m → n ≤ m ∧ m ≤ 400 := fun mu p h => by
  unfold lenR at h
  obtain ⟨_, q1, m1, h1, h⟩ := zQk h
  obtain ⟨_, q2, m2, h2, h⟩ := zQk h
  obtain ⟨_, q3, m3, h3, h⟩ := zQk h
  obtain ⟨_, q4, m4, h4, h⟩ := zQk h
  obtain ⟨_, q5, m5, h5, h⟩ := zQk h
  obtain ⟨_, q6, m6, h6, h⟩ := zQk h
  obtain ⟨_, q7, m7, h7, h⟩ := zQk h
  cases h
  have e1 := namN h1
  have e2 := zZt h2
  have e3 := namN h3
  have e4 := betN h4
  have e5 := expN h5
  have e6 := zZt h6
  have := hB _ _ _ _ _ (by omega) h7
  omega
 unfold stR at h
 by_cases c1 : txt T p = wLet
 ·rw [if_pos c1] at h
  unfold letR at h
  obtain ⟨_, q1, m1, h1, h⟩ := zQk h
  obtain ⟨_, q2, m2, h2, h⟩ := zQk h
  cases h
  have e1 := namN h1
  have e2 := betN h2
  omega
 rw [if_neg c1] at h
 by_cases c2 : txt T p = wBuf
 ·rw [if_pos c2] at h
  unfold bufR at h
  obtain ⟨_, q1, m1, h1, h⟩ := zQk h
  obtain ⟨_, q2, m2, h2, h⟩ := zQk h
  obtain ⟨_, q3, m3, h3, h⟩ := zQk h
  cases h
  have e1 := namN h1
  have e2 := betN h2
  have e3 := zZt h3
  omega
 rw [if_neg c2] at h
 by_cases c3 : txt T p = wIf
 ·rw [if_pos c3] at h
  unfold ifR at h
  obtain ⟨_, q1, m1, h1, h⟩ := zQk h
  obtain ⟨_, q2, m2, h2, h⟩ := zQk h
  have e1 := expN h1
  have e2 := hB _ _ _ _ _ (by omega) h2
  split at h
  ·obtain ⟨_, q3, m3, h3, h⟩ := zQk h
   cases h
   have e3 := hB _ _ _ _ _ (by omega) h3
   omega
  ·cases h; omega
 rw [if_neg c3] at h
 by_cases c4 : txt T p = zZz
 ·rw [if_pos c4] at h
  unfold whiR at h
  obtain ⟨_, q1, m1, h1, h⟩ := zQk h
  obtain ⟨_, q2, m2, h2, h⟩ := zQk h
  cases h
  have e1 := expN h1
  have e2 := hB _ _ _ _ _ (by omega) h2
  omega
 rw [if_neg c4] at h
 by_cases c5 : txt T p = wFor
 ·rw [if_pos c5] at h
  unfold forR at h
  obtain ⟨_, q1, m1, h1, h⟩ := zQk h
  obtain ⟨_, q2, m2, h2, h⟩ := zQk h
  obtain ⟨_, q3, m3, h3, h⟩ := zQk h
  obtain ⟨_, q4, m4, h4, h⟩ := zQk h
  cases h
  have e1 := namN h1
  have e2 := zZt h2
  have e3 := expN h3
  have e4 := hB _ _ _ _ _ (by omega) h4
  omega
 rw [if_neg c5] at h
 by_cases c6 : txt T p = zXf
 ·rw [if_pos c6] at h; exact hlen _ _ h
 rw [if_neg c6] at h
 by_cases c7 : txt T p = zQt
 ·rw [if_pos c7] at h; exact hlen _ _ h
 rw [if_neg c7] at h
 by_cases c8 : txt T p = zKw
 ·rw [if_pos c8] at h
  unfold movR at h
  obtain ⟨_, q1, m1, h1, h⟩ := zQk h
  obtain ⟨_, q2, m2, h2, h⟩ := zQk h
  obtain ⟨_, q3, m3, h3, h⟩ := zQk h
  obtain ⟨_, q4, m4, h4, h⟩ := zQk h
  cases h
  have e1 := namN h1
  have e2 := zZt h2
  have e3 := namN h3
  have e4 := zZt h4
  omega
 rw [if_neg c8] at h
 by_cases c9 : txt T p = yQp
 ·rw [if_pos c9] at h
  unfold opnR at h
  obtain ⟨_, q1, m1, h1, h⟩ := zQk h
  obtain ⟨_, q2, m2, h2, h⟩ := zQk h
  cases h
  have e1 := namN h1
  have e2 := betN h2
  omega
 rw [if_neg c9] at h
 by_cases c10 : txt T p = zKs
 ·rw [if_pos c10] at h
  unfold calR at h
  obtain ⟨_, q1, m1, h1, h⟩ := zQk h
  have e1 := namN h1
  split at h
  ·obtain ⟨_, q2, m2, h2, h⟩ := zQk h
   have e2 := namN h2
   have e3 := argN h
   omega
  ·have e3 := argN h
   omega
 rw [if_neg c10] at h
 by_cases c11 : txt T p = yQh
 ·rw [if_pos c11] at h
  unfold seaR at h
  obtain ⟨_, q1, m1, h1, h⟩ := zQk h
  cases h
  have e1 := zZt h1
  omega
 rw [if_neg c11] at h
 unfold setR at h
 obtain ⟨_, q1, m1, h1, h⟩ := zQk h
 have e1 := namN h1
 split at h
 ·obtain ⟨_, q2, m2, h2, h⟩ := zQk h
  obtain ⟨_, q3, m3, h3, h⟩ := zQk h
  cases h
  have e2 := betN h2
  have e3 := betN h3
  omega
 ·obtain ⟨_, q3, m3, h3, h⟩ := zQk h
  cases h
  have e3 := betN h3
  omega
theorem xXg {T : List Tk} {blk : Nat → Nat → Rz (List St)} (hB : ∀ p n l q m, n ≤ 400 → blk p n = .ok l q m → n ≤ m ∧ m ≤ 400) {p n : Nat} (hn : n ≤ 400) {s : St} {q m : Nat} (h : staR T blk p n = .ok s q m) : n < m ∧ m ≤ 400 := by
 unfold staR at h
 by_cases c : n = 400
 ·rw [if_pos c] at h; cases h
 ·rw [if_neg c] at h
  have := stR_mono hB (by omega) h
  omega
theorem blkR_mono {T : List Tk} : ∀ d p n l q m, n ≤ 400 → blkR T d p n = .ok l q m → n ≤ m ∧ m ≤ 400 := by
 intro d
 induction d with
 | zero =>
  intro p n l q m hn h
  unfold blkR at h
  obtain ⟨_, q1, m1, h1, h⟩ := zQk h
  have e1 := zZt h1
  have := xXz (fun p n s q m _ h => by cases h) _ _ _ _ _ _ _ (by omega) h
  omega
 | succ d ih =>
  intro p n l q m hn h
  unfold blkR at h
  obtain ⟨_, q1, m1, h1, h⟩ := zQk h
  have e1 := zZt h1
  have := xXz (fun p n s q m hn h => by have := xXg ih hn h; omega) _ _ _ _ _ _ _ (by omega) h
  omega
theorem block_any {rb mb : Nat} {v : Value} {T : List (Tk × Int)} : ∀ K, K ≤ 40 → BlkC rb mb v T (40 - K) (blkR (zQb T) K) := by
 intro K
 induction K with
 | zero =>
  intro _
  exact xKm (d := 40) (Nat.le_refl _) (fun p _ => .er 70 p) (fun _ => 1) (fun n _ => ⟨Nat.le_refl _, by omega⟩) (fun p n x q m _ h => by cases h) (fun h => stm_deep h)
 | succ K ih =>
  intro hK
  have hB : BlkC rb mb v T (40 - K) (blkR (zQb T) K) := fun {W p n} h => ih (by omega) h
  have e : 40 - (K + 1) + 1 = 40 - K := by omega
  intro W p n h
  exact xKm (d := 40 - (K + 1)) (by omega) (staR (zQb T) (blkR (zQb T) K)) (fun n => 401 - n) (fun n hn => ⟨by omega, by omega⟩) (fun p n x q m hn h => by have := xXg (blkR_mono K) hn h; omega) (fun {W p n} h => by rw [e] at h ⊢; exact statement_any h (by omega) hB) h
inductive IsFd (G : Nat → Prop) (w : World) : Value → Fd → Prop
 | mk {nm : List UInt8} {ps : List Pm} {bd : List St} {sec : Bool} {rt : List Xp} {mp mb mr : Option Addr} {cp cb cr : Nat} (hp : ps.length ≤ 140737488355328) (hb : bd.length ≤ 140737488355328) (hr : rt.length ≤ 140737488355328)
    (hP : PmsAt G w ps mp) (hB : StsAt G w bd mb) (hR : KidsAt G w rt mr) : IsFd G w (.agg #[.string (str nm), .slice mp ps.length cp, .slice mb bd.length cb, .bool sec, .slice mr rt.length cr]) ⟨nm, ps, bd, sec, rt⟩
def VF (w w' : World) (u : Value) (x : Fd) : Prop := IsFd (fun b => w.heap.size ≤ b ∧ b < w'.heap.size) w' u x
theorem yZz {w : World} {rb mb : Nat} {v : Value} {T : List (Tk × Int)} {p n : Nat} (h : IsRs w rb mb v T p 0 n) :
 Calls Tryz.prog 114 #[.pointer (some ⟨rb, 0, none⟩)] w (RP VF w rb mb v T 0 (funR (zQb T) p n)) := by
 have hrl := h.rl
 have hTf : ∀ {W : World} {p n : Nat}, IsRs W rb mb v T p 0 n → Calls Tryz.prog 140 #[.pointer (some ⟨rb, 0, none⟩), .string ⟨#[102, 110]⟩] W (RP VU W rb mb v T 0 (takR (zQb T) wFn p n)) := fun h => zXl h wFn (by decide)
 have hT1 : ∀ {W : World} {p n : Nat}, IsRs W rb mb v T p 0 n → Calls Tryz.prog 140 #[.pointer (some ⟨rb, 0, none⟩), .string ⟨#[40]⟩] W (RP VU W rb mb v T 0 (takR (zQb T) [40] p n)) := fun h => zXl h [40] (by decide)
 have hT2 : ∀ {W : World} {p n : Nat}, IsRs W rb mb v T p 0 n → Calls Tryz.prog 140 #[.pointer (some ⟨rb, 0, none⟩), .string ⟨#[59]⟩] W (RP VU W rb mb v T 0 (takR (zQb T) [59] p n)) := fun h => zXl h [59] (by decide)
 have hLp : ∀ {W : World} {p n : Nat}, IsRs W rb mb v T p 0 n → Calls Tryz.prog 146 #[.pointer (some ⟨rb, 0, none⟩), .func (.func 147) #[] #[], .string ⟨#[41]⟩] W (RP VPs W rb mb v T 0 (lisR (zQb T) (parR (zQb T)) [41] p n)) := fun h => listPl_any h [41] (by decide)
 have hBk : ∀ {W : World} {p n : Nat}, IsRs W rb mb v T p 0 n → Calls Tryz.prog 142 #[.pointer (some ⟨rb, 0, none⟩)] W (RP VB W rb mb v T 0 (blkR (zQb T) 40 p n)) := fun {W p n} h => block_any 40 (Nat.le_refl _) h
 have hHt : ∀ {W : World} {q m : Nat}, txt (zQb T) q = [61] → IsRs W rb mb v T q 0 m → Calls Tryz.prog 137 #[.pointer (some ⟨rb, 0, none⟩), .string ⟨#[61]⟩] W fun e w' => e = .returned (.bool true) ∧ Only (fun j => j = rb) W w' ∧ IsRs w' rb mb v T (q + 1) 0 m := fun hc h => by have := zXd h [61] (by decide); rw [yJd hc, yKn hc] at this; exact this
 have hHf : ∀ {W : World} {q m : Nat}, ¬ txt (zQb T) q = [61] → IsRs W rb mb v T q 0 m → Calls Tryz.prog 137 #[.pointer (some ⟨rb, 0, none⟩), .string ⟨#[61]⟩] W fun e w' => e = .returned (.bool false) ∧ Only (fun j => j = rb) W w' ∧ IsRs w' rb mb v T q 0 m := fun hc h => by have := zXd h [61] (by decide); rw [yJe hc, yKo hc] at this; exact this
 have hHs : ∀ {W : World} {p n : Nat}, IsRs W rb mb v T p 0 n → Calls Tryz.prog 137 #[.pointer (some ⟨rb, 0, none⟩), .string ⟨#[115, 101, 99, 114, 101, 116]⟩] W fun e w' => e = .returned (.bool (isP (zQb T) zQo p)) ∧ Only (fun j => j = rb) W w' ∧ IsRs w' rb mb v T (beP (zQb T) zQo p) 0 n := fun h => zXd h zQo (by decide)
 unfold funR
 go_enter Tryz.func114, Tryz.ntmps114
 go_wp2_with (first
  | (go_at_call 140; ((with_reducible refine (hTf (h.newer h (zQc (Only.refl _ _) _))).mono ?_); (rintro e w1 ⟨hO1, hR1⟩); (have hP1 : Only (fun j => j = rb) w w1 := ((Only.refl _ _).old (zQc (Only.refl _ _) _) (fun j hj => .inr hj)).trans hO1); (have hs1 := hO1.size); (simp only [World.size_alloc] at hs1); (have hZ1 := zQa (zQf _ _ _ (w.heap.size) (by simp)) hO1 (by omega)); (rcases r1 : takR (zQb T) wFn p n with ⟨c1, q1⟩ | ⟨x1, q1, m1⟩) <;> (rw [r1] at hR1; first | (unfold Flt at hR1; subst hR1) | (obtain ⟨hI1, z1, rfl, hV1⟩ := hR1; (unfold VU at hV1; subst hV1)))))
  | (go_at_call 138; ((with_reducible refine (zXw hI1).mono ?_); (rintro e w2 ⟨hO2, hR2⟩); (have hP2 := hP1.trans hO2); (have hs2 := hO2.size); (have hZ2 := zQa hZ1 hO2 (by omega)); (rcases r2 : namR (zQb T) q1 m1 with ⟨c2, q2⟩ | ⟨x2, q2, m2⟩) <;> (rw [r2] at hR2; first | (unfold Flt at hR2; subst hR2) | (obtain ⟨hI2, z2, rfl, hV2⟩ := hR2; (unfold VN at hV2; subst hV2)))))
  | (go_at_call 140; ((with_reducible refine (hT1 (h.newer hI2 (zQc (Only.refl _ _) _))).mono ?_); (rintro e w3 ⟨hO3, hR3⟩); (have hP3 : Only (fun j => j = rb) w w3 := (hP2.old (zQc (Only.refl _ _) _) (fun j hj => .inr hj)).trans hO3); (have hs3 := hO3.size); (simp only [World.size_alloc] at hs3); (have hZ3 := zQa (zQj hZ2 _) hO3 (by omega)); (have hS3 := zQa (zQf _ _ _ (w2.heap.size) (by simp)) hO3 (by omega)); (rcases r3 : takR (zQb T) [40] q2 m2 with ⟨c3, q3⟩ | ⟨x3, q3, m3⟩) <;> (rw [r3] at hR3; first | (unfold Flt at hR3; subst hR3) | (obtain ⟨hI3, z3, rfl, hV3⟩ := hR3; (unfold VU at hV3; subst hV3)))))
  | (go_at_call 146; ((with_reducible refine (hLp hI3).mono ?_); (rintro e w4 ⟨hO4, hR4⟩); (have hP4 := hP3.trans hO4); (have hs4 := hO4.size); (have hZ4 := zQa hZ3 hO4 (by omega)); (have hS4 := zQa hS3 hO4 (by omega)); (rcases r4 : lisR (zQb T) (parR (zQb T)) [41] q3 m3 with ⟨c4, q4⟩ | ⟨x4, q4, m4⟩) <;> (rw [r4] at hR4; first | (unfold Flt at hR4; subst hR4) | (obtain ⟨hI4, z4, rfl, hV4⟩ := hR4; (obtain ⟨mk4, cap4, rfl, hL4, hE4⟩ := hV4); (have fS1_4 := hS4.1 1 (by simp)); (have ffS_4 := hS4.2.1); (have flS_4 := hS4.2.2)))))
  | (go_at_call 142; ((with_reducible refine (hBk (h.newer hI4 (zQi (Only.refl _ _) _ _ _ (by omega)))).mono ?_); (rintro e w5 ⟨hO5, hR5⟩); (have hP5 : Only (fun j => j = rb) w w5 := (hP4.old (zQi (Only.refl _ _) _ _ _ (by omega)) (fun j hj => .inr hj)).trans hO5); (have hs5 := hO5.size); (simp only [World.size_setCell] at hs5); (have hZ5 := zQa (zQm _ hZ4 (by omega)) hO5 (by omega)); (have hS5 := zQa (jKu (.slice mk4 x4.length cap4) hS4) hO5 (by omega)); (have hE4_5 := ((hE4.only (os1 (or1 (w2.heap.size) _) 1 (.slice mk4 x4.length cap4)) (fun b hb e => by simp at *; omega))).only hO5 (fun b hb e => by simp at *; omega)); (rcases r5 : blkR (zQb T) 40 q4 m4 with ⟨c5, q5⟩ | ⟨x5, q5, m5⟩) <;> (rw [r5] at hR5; first | (unfold Flt at hR5; subst hR5) | (obtain ⟨hI5, z5, rfl, hV5⟩ := hR5; (obtain ⟨mk5, cap5, rfl, hL5, hE5⟩ := hV5); (have fS2_5 := hS5.1 2 (by simp)); (have ffS_5 := hS5.2.1); (have flS_5 := hS5.2.2)))))
  | (go_at_call 137; ((rcases Classical.em (txt (zQb T) q5 = [61]) with hc6 | hc6) <;> ((first | (with_reducible refine (hHt hc6 (h.newer hI5 (zQi (Only.refl _ _) _ _ _ (by omega)))).mono ?_) | (with_reducible refine (hHf hc6 (h.newer hI5 (zQi (Only.refl _ _) _ _ _ (by omega)))).mono ?_)); (rintro e w6 ⟨rfl, hO6, hI6⟩); (have hP6 : Only (fun j => j = rb) w w6 := (hP5.old (zQi (Only.refl _ _) _ _ _ (by omega)) (fun j hj => .inr hj)).trans hO6); (have hs6 := hO6.size); (simp only [World.size_setCell] at hs6); (have hZ6 := zQa (zQm _ hZ5 (by omega)) hO6 (by omega)); (have hS6 := zQa (jKt (.slice mk5 x5.length cap5) hS5) hO6 (by omega)); (have hE4_6 := ((hE4_5.only (os1 (or1 (w2.heap.size) _) 2 (.slice mk5 x5.length cap5)) (fun b hb e => by simp at *; omega))).only hO6 (fun b hb e => by simp at *; omega)); (have hE5_6 := ((hE5.only (os1 (or1 (w2.heap.size) _) 2 (.slice mk5 x5.length cap5)) (fun b hb e => by simp at *; omega))).only hO6 (fun b hb e => by simp at *; omega)))))
  | (go_at_call 137; ((with_reducible refine (hHs hI6).mono ?_); (rintro e w7 ⟨rfl, hO7, hI7⟩); (have hP7 := hP6.trans hO7); (have hs7 := hO7.size); (have hZ7 := zQa hZ6 hO7 (by omega)); (have hS7 := zQa hS6 hO7 (by omega)); (have hE4_7 := (hE4_6).only hO7 (fun b hb e => by simp at *; omega)); (have hE5_7 := (hE5_6).only hO7 (fun b hb e => by simp at *; omega)); (have fS3_7 := hS7.1 3 (by simp)); (have ffS_7 := hS7.2.1); (have flS_7 := hS7.2.2)))
  | (go_at_call 141; ((with_reducible refine (zKe (h.newer hI7 (zQi (Only.refl _ _) _ _ _ (by omega)))).mono ?_); (rintro e w8 ⟨hO8, hR8⟩); (have hP8 : Only (fun j => j = rb) w w8 := (hP7.old (zQi (Only.refl _ _) _ _ _ (by omega)) (fun j hj => .inr hj)).trans hO8); (have hs8 := hO8.size); (simp only [World.size_setCell] at hs8); (have hZ8 := zQa (zQm _ hZ7 (by omega)) hO8 (by omega)); (have hS8 := zQa (r5fs3 (.bool (isP (zQb T) zQo (q5 + 1))) hS7) hO8 (by omega)); (have hE4_8 := ((hE4_7.only (os1 (or1 (w2.heap.size) _) 3 (.bool (isP (zQb T) zQo (q5 + 1)))) (fun b hb e => by simp at *; omega))).only hO8 (fun b hb e => by simp at *; omega)); (have hE5_8 := ((hE5_7.only (os1 (or1 (w2.heap.size) _) 3 (.bool (isP (zQb T) zQo (q5 + 1)))) (fun b hb e => by simp at *; omega))).only hO8 (fun b hb e => by simp at *; omega)); (rcases r8 : expR (zQb T) (beP (zQb T) zQo (q5 + 1)) m5 with ⟨c8, q8⟩ | ⟨x8, q8, m8⟩) <;> (rw [r8] at hR8; first | (unfold Flt at hR8; subst hR8) | (obtain ⟨hI8, z8, rfl, hV8⟩ := hR8; (obtain ⟨k8, n8, s8, o8, mk8, mm8, cap8, rfl⟩ := zKt hV8); (have fS4_8 := hS8.1 4 (by simp)); (have ffS_8 := hS8.2.1); (have flS_8 := hS8.2.2)))))
  | (go_at_call 140; ((with_reducible refine (hT2 (h.newer hI8 (zQc (zQi (Only.refl _ _) _ _ _ (by omega)) _))).mono ?_); (rintro e w9 ⟨hO9, hR9⟩); (have hP9 : Only (fun j => j = rb) w w9 := (hP8.old (zQc (zQi (Only.refl _ _) _ _ _ (by omega)) _) (fun j hj => .inr hj)).trans hO9); (have hs9 := hO9.size); (simp only [World.size_alloc, World.size_setCell] at hs9); (have hZ9 := zQa (zQj (zQm _ hZ8 (by omega)) _) hO9 (by omega)); (have hS9 := zQa (zQj (jKs (.slice (some ⟨w8.heap.size, 0, none⟩) 1 1) hS8) _) hO9 (by omega)); (have hK9 := zQa (zQf #[.int .u8 k8, .int .u64 n8, .string s8, .int .u8 o8, .slice mk8 mm8 cap8] 47 (w8.setCell ⟨w2.heap.size, 4, none⟩ (.slice (some ⟨w8.heap.size, 0, none⟩) 1 1)) (w8.heap.size) (by simp)) hO9 (by omega)); (have hE4_9 := (((hE4_8.only (os1 (or1 (w2.heap.size) _) 4 (.slice (some ⟨w8.heap.size, 0, none⟩) 1 1)) (fun b hb e => by simp at *; omega)).of (aB (Below.refl _ _) _))).only hO9 (fun b hb e => by simp at *; omega)); (have hE5_9 := (((hE5_8.only (os1 (or1 (w2.heap.size) _) 4 (.slice (some ⟨w8.heap.size, 0, none⟩) 1 1)) (fun b hb e => by simp at *; omega)).of (aB (Below.refl _ _) _))).only hO9 (fun b hb e => by simp at *; omega)); (have hE8_9 := (((hV8.only (os1 (or1 (w2.heap.size) _) 4 (.slice (some ⟨w8.heap.size, 0, none⟩) 1 1)) (fun b hb e => by simp at *; omega)).of (aB (Below.refl _ _) _))).only hO9 (fun b hb e => by simp at *; omega)); (rcases r9 : takR (zQb T) [59] q8 m8 with ⟨c9, q9⟩ | ⟨x9, q9, m9⟩) <;> (rw [r9] at hR9; first | (unfold Flt at hR9; subst hR9) | (obtain ⟨hI9, z9, rfl, hV9⟩ := hR9; (unfold VU at hV9; subst hV9)))))
  | (with_reducible refine ld5f rfl _ rfl (w2.heap.size) rfl (show rowG #[.string (str x2), .slice mk4 x4.length cap4, .slice mk5 x5.length cap5, .bool (isP (zQb T) zQo (q5 + 1)), .slice (some ⟨w8.heap.size, 0, none⟩) 1 1] _ _ from hS9) ?_)
  | (with_reducible refine st5f rfl _ _ rfl (w.heap.size) rfl rfl hZ9 ?_; intro wF hF hOF)
  | (go_at_call 140; ((with_reducible refine (hT2 hI6).mono ?_); (rintro e w7 ⟨hO7, hR7⟩); (have hP7 := hP6.trans hO7); (have hs7 := hO7.size); (have hZ7 := zQa hZ6 hO7 (by omega)); (have hS7 := zQa hS6 hO7 (by omega)); (have hE4_7 := (hE4_6).only hO7 (fun b hb e => by simp at *; omega)); (have hE5_7 := (hE5_6).only hO7 (fun b hb e => by simp at *; omega)); (rcases r7 : takR (zQb T) [59] q5 m5 with ⟨c7, q7⟩ | ⟨x7, q7, m7⟩) <;> (rw [r7] at hR7; first | (unfold Flt at hR7; subst hR7) | (obtain ⟨hI7, z7, rfl, hV7⟩ := hR7; (unfold VU at hV7; subst hV7)))))
  | (with_reducible refine ld5f rfl _ rfl (w2.heap.size) rfl (show rowG #[.string (str x2), .slice mk4 x4.length cap4, .slice mk5 x5.length cap5, .bool false, .slice none 0 0] _ _ from hS7) ?_)
  | (with_reducible refine st5f rfl _ _ rfl (w.heap.size) rfl rfl hZ7 ?_; intro wF hF hOF)
  )
 all_goals first
  | (refine ⟨rfl, ?_⟩; simp only [r1, Rz.next]; exact .er hP1)
  | (refine ⟨rfl, ?_⟩; simp only [r1, r2, Rz.next]; exact .er hP2)
  | (refine ⟨rfl, ?_⟩; simp only [r1, r2, r3, Rz.next]; exact .er hP3)
  | (refine ⟨rfl, ?_⟩; simp only [r1, r2, r3, r4, Rz.next]; exact .er hP4)
  | (refine ⟨rfl, ?_⟩; simp only [r1, r2, r3, r4, r5, Rz.next]; exact .er hP5)
  | (refine ⟨rfl, ?_⟩; simp only [r1, r2, r3, r4, r5, Rz.next]; unfold retR; rw [if_pos hc6]; simp only [r8, Rz.next]; exact .er hP8)
  | (refine ⟨rfl, ?_⟩; simp only [r1, r2, r3, r4, r5, Rz.next]; unfold retR; rw [if_pos hc6]; simp only [r8, r9, Rz.next]; exact .er hP9)
  | (refine ⟨rfl, ?_⟩; simp only [r1, r2, r3, r4, r5, Rz.next]; unfold retR; rw [if_neg hc6]; simp only [r7, Rz.next]; exact .er hP7)
  | (simp only [r1, r2, r3, r4, r5, Rz.next]; unfold retR; rw [if_pos hc6]; simp only [r8, r9, Rz.next]
     have hsF := hOF.size
     have hOn : Only (fun j => w.heap.size ≤ j) w9 wF := (Only.refl _ _).trans (hOF.mono (fun j e => by have e2 : j = w.heap.size := e; omega))
     refine bodyPost_ret (jKo rfl _ _ (w.heap.size) _ _ _ _ _ rfl hF) rfl ?_
     exact .ok (hP9.old hOn (fun j hj => .inr hj)) (h.newer hI9 hOn) (IsFd.mk (nm := x2) (ps := x4) (bd := x5) (sec := isP (zQb T) zQo (q5 + 1)) (rt := [x8]) hL4 hL5 (by simp) ((hE4_9.only hOF (fun b hb e => by simp at *; omega)).mono (fun b hb => ⟨by simp at *; omega, by simp at *; omega⟩)) ((hE5_9.only hOF (fun b hb e => by simp at *; omega)).mono (fun b hb => ⟨by simp at *; omega, by simp at *; omega⟩)) (yQv (zQa hK9 hOF (by omega)) ⟨by omega, by omega⟩ ((hE8_9.only hOF (fun b hb e => by simp at *; omega)).mono (fun b hb => ⟨by simp at *; omega, by simp at *; omega⟩)))))
  | (simp only [r1, r2, r3, r4, r5, Rz.next]; unfold retR; rw [if_neg hc6]; simp only [r7, Rz.next]
     have hsF := hOF.size
     have hOn : Only (fun j => w.heap.size ≤ j) w7 wF := (Only.refl _ _).trans (hOF.mono (fun j e => by have e2 : j = w.heap.size := e; omega))
     refine bodyPost_ret (jKo rfl _ _ (w.heap.size) _ _ _ _ _ rfl hF) rfl ?_
     exact .ok (hP7.old hOn (fun j hj => .inr hj)) (h.newer hI7 hOn) (IsFd.mk (nm := x2) (ps := x4) (bd := x5) (sec := false) (rt := []) hL4 hL5 (by simp) ((hE4_7.only hOF (fun b hb e => by simp at *; omega)).mono (fun b hb => ⟨by simp at *; omega, by simp at *; omega⟩)) ((hE5_7.only hOF (fun b hb e => by simp at *; omega)).mono (fun b hb => ⟨by simp at *; omega, by simp at *; omega⟩)) .nil))
end Go.Proofs.YtfbjljcmmbdhkaaGreatDoor
