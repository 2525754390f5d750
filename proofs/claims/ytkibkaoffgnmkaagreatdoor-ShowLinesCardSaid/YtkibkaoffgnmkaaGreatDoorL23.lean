/- Contracts of tell, whatever the expression, and of Tell. -/
import Derived.Test.YtkibkaoffgnmkaaGreatDoorL22
import Derived.Test.YtkibkaoffgnmkaaGreatDoorL19
import Derived.Test.YtkibkaoffgnmkaaGreatDoorL01
import Derived.Test.YtkibkaoffgnmkaaGreatDoorL04
import Derived.Test.YtkibkaoffgnmkaaGreatDoorL10
import Derived.Test.YtkibkaoffgnmkaaGreatDoorL12
namespace Go.Proofs.YtkibkaoffgnmkaaGreatDoor
set_option linter.unusedVariables false
set_option linter.unusedSimpArgs false
set_option maxRecDepth 100000
set_option maxHeartbeats 200000000
section
open Go.ChangeShapes Go.WideShapes Go.ChangeAt Go.RowKit
theorem tell_any : ∀ d, TellIH d := by
 intro d
 induction d with
 | zero => intro x v l T B w h; simp [mayB] at h
 | succ d ih =>
  intro x v l T B w hm hE ho hB hl hES hgB
  cases hE with
  | @mk k n s o kids ma cap h256 hkl hk =>
   rw [mayB, Bool.and_eq_true] at hm
   obtain ⟨hf, ha⟩ := hm
   rw [Xp.nodes] at hl
   rcases fit_k hf with rfl | rfl | rfl | rfl | rfl
   ·obtain ⟨rfl, rfl, hm0⟩ := fit1 hf
    obtain rfl : kids = [] := List.length_eq_zero_iff.1 hm0
    exact tell_num n ma cap B l T w ho hB (by omega)
   ·obtain ⟨rfl, hn, rfl, hm0⟩ := fit2 hf
    obtain rfl : kids = [] := List.length_eq_zero_iff.1 hm0
    exact tell_var s ma cap B l T w ho hB (by omega)
   ·obtain ⟨rfl, rfl, hoo, hm0⟩ := fit3 hf
    obtain ⟨a, b, rfl⟩ : ∃ a b, kids = [a, b] := by
     match kids, hm0 with
     | [a, b], _ => exact ⟨a, b, rfl⟩
    simp only [List.all_cons, List.all_nil, Bool.and_true, Bool.and_eq_true] at ha
    obtain ⟨blk, off, rfl⟩ := kids_some hk (by simp)
    obtain ⟨m0, c0, k0⟩ := kidIn hk 0 (by simp)
    obtain ⟨m1, c1, k1⟩ := kidIn hk 1 (by simp)
    simp only [Nat.zero_mul, Nat.add_zero, Nat.one_mul, List.getElem_cons_zero, List.getElem_cons_succ] at k0 k1
    simp only [nodesL] at hl
    exact tell_3 d ih a b ha.1 ha.2 o h256 blk off cap m0 c0 m1 c1 B l T w ho hB k0 k1 (by omega) hES hgB
   ·obtain ⟨rfl, hn, rfl, hm0⟩ := fit4 hf
    obtain rfl : kids = [] := List.length_eq_zero_iff.1 hm0
    exact tell_4 s ma cap B l T w ho hB (by omega)
   ·obtain ⟨rfl, hn, rfl, hm0⟩ := fit5 hf
    obtain ⟨a, rfl⟩ : ∃ a, kids = [a] := by
     match kids, hm0 with
     | [a], _ => exact ⟨a, rfl⟩
    simp only [List.all_cons, List.all_nil, Bool.and_true] at ha
    obtain ⟨blk, off, rfl⟩ := kids_some hk (by simp)
    obtain ⟨m0, c0, k0⟩ := kidIn hk 0 (by simp)
    simp only [Nat.zero_mul, Nat.add_zero, List.getElem_cons_zero] at k0
    simp only [nodesL] at hl
    exact tell_5 d ih a ha s blk off cap m0 c0 B l T w ho hB k0 (by omega) hES hgB
def IsB (w : World) (v : Value) (e : Xp) : Prop := IsE (fun b => b < w.heap.size) w v e
theorem IsB.of {w w' : World} {v : Value} {e : Xp} (h : IsB w v e) (hb : Below w.heap.size w w') : IsB w' v e := (h.mono (fun b hb' => Nat.lt_of_lt_of_le hb' hb.size)).of hb
theorem es_lt {w : World} (h : ESignsOk w) : 9 < w.heap.size := World.block_lt_of_cell? w _ (h 0 (by omega))
theorem Tell_yes (e : Xp) (v : Value) (w : World) (hE : IsB w v e) (hT : Tb w) (hm : mayB 40 e = true) (hn : e.nodes ≤ 100000) :
  Calls Tryz.prog 150 #[v] w fun r w' => (∃ l, r = .returned (.tuple #[l, .int .i64 0]) ∧ w'.ownsRow w.heap.size 95 4 l (zs (tellF 40 e)).length (cellsZ (zs (tellF 40 e)))) ∧ Below w.heap.size w w' := by
 have hC : ∀ o, Calls Tryz.prog 129 #[v] (w.alloc o) fun r w' => r = .returned (.int .i64 0) ∧ Below (w.alloc o).heap.size (w.alloc o) w' := fun o => by
  have := check_any _ e v (w.alloc o) (hE.of (aB (Below.refl _ _) _)) (hT.alloc _)
  rw [hm] at this
  exact this
 have hL : ∀ w1, Below w.heap.size w w1 → Calls Tryz.prog 165 #[.slice none 0 0, v] w1 fun r w' => ∃ l', r = .returned l' ∧ Tl w1.heap.size w1 w' (.slice none 0 0) l' (zs (tellF 40 e)) := fun w1 hb =>
  tell_any 40 e v (.slice none 0 0) [] w1.heap.size w1 hm (hE.of hb) (World.ownsRow_nil _ _ _ _) (Nat.le_refl _) (by simp only [List.length_nil]; omega) (hT.of hb).esg (es_lt (hT.of hb).esg)
 cases hE with
 | @mk k n s o kids ma cap h256 hkl hk =>
  clear hk
  go_enter Tryz.func150, Tryz.ntmps150
  go_wp2_with (first | (go_at_call 129; ((with_reducible refine (hC _).mono ?_); (rintro r w1 ⟨rfl, hb⟩); obtain ⟨hc, hf⟩ := bcell hb; have hz := hz1 hb; have hB1 : Below w.heap.size w w1 := tr (aB (Below.refl _ _) _) hb)) | (go_at_call 165; ((with_reducible refine (hL _ hB1).mono ?_); (rintro r w2 ⟨l2, rfl, hl2⟩))))
  go_ret2
  have hB2 : Below w.heap.size w w2 := tr hB1 (hl2.only.below (fun j hj => by cases hj) (Nat.le_refl _))
  exact ⟨⟨_, rfl, own_base hB1.size hl2.own⟩, hB2⟩
end
section
def wdT (s : List UInt8) : Tk := ⟨2, s, 0⟩
def secT (b : Bool) : List Tk := if b = true then [wdT wSecret] else []
def xpT (e : Xp) : List Tk := tellF 40 e
def comT {α : Type} (f : α → List Tk) : List α → List Tk
 | [] => []
 | x :: r => f x ++ r.flatMap (fun y => sg [44] :: f y)
def e0T (ex : List Xp) : List Tk := xpT (ex.getD 0 x0)
def e1T (ex : List Xp) : List Tk := xpT (ex.getD 1 x0)
def stH (k : Nat) (nm fr : List UInt8) (sec mu : Bool) (ex : List Xp) (ar : List (List UInt8)) : List Tk :=
 if k = 1 then wdT wLet :: (secT sec ++ nmT nm :: sg [61] :: (e0T ex ++ [sg [59]]))
 else if k = 2 then nmT nm :: sg [61] :: (e0T ex ++ [sg [59]])
 else if k = 3 then wdT wBuf :: (secT sec ++ nmT nm :: sg [91] :: (e0T ex ++ [sg [93], sg [59]]))
 else if k = 4 then nmT nm :: sg [91] :: (e0T ex ++ sg [93] :: sg [61] :: (e1T ex ++ [sg [59]]))
 else if k = 5 then wdT wIf :: (e0T ex ++ [sg [123]])
 else if k = 6 then wdT wWhile :: (e0T ex ++ [sg [123]])
 else if k = 7 then wdT wFor :: nmT nm :: sg [60] :: (e0T ex ++ [sg [123]])
 else if k = 8 then wdT (if mu = true then wEdit else wView) :: nmT nm :: sg [61] :: nmT fr :: sg [91] :: (e0T ex ++ sg [46, 46] :: (e1T ex ++ [sg [93], sg [123]]))
 else if k = 9 then [wdT wMove, nmT nm, sg [61], nmT fr, sg [59]]
 else if k = 10 then wdT wOpen :: nmT nm :: sg [61] :: (e0T ex ++ [sg [59]])
 else if k = 11 then wdT wCall :: ((if nm = [] then [] else [nmT nm, sg [61]]) ++ nmT fr :: sg [40] :: (comT xpT ex ++ sg [59] :: (comT (fun s => [nmT s]) ar ++ [sg [41], sg [59]])))
 else [wdT wSeal, sg [59]]
mutual
def stT : St → List Tk
 | .mk k nm fr sec mu ex ar bd el => stH k nm fr sec mu ex ar ++ (if 5 ≤ k ∧ k ≤ 8 then stsT bd ++ ((if el.isEmpty = true then [] else sg [125] :: wdT wElse :: sg [123] :: stsT el) ++ [sg [125]]) else [])
def stsT : List St → List Tk
 | [] => []
 | s :: r => stT s ++ stsT r
end
def pmT (x : Pm) : List Tk := (if x.mu = true then [wdT wEdit] else if x.buf = true then [wdT wView] else if x.sec = true then [] else [wdT wNum]) ++ (secT x.sec ++ [nmT x.nm])
def hdT (f : Fd) : List Tk := wdT wFn :: nmT f.nm :: sg [40] :: (comT pmT f.ps ++ [sg [41], sg [123]])
def tlT (f : Fd) : List Tk := sg [125] :: ((if f.rt.isEmpty = true then [] else sg [61] :: (secT f.sec ++ e0T f.rt)) ++ [sg [59]])
def fdT (f : Fd) : List Tk := hdT f ++ (stsT f.bd ++ tlT f)
def pgT (l : List Fd) : List Tk := l.flatMap fdT
theorem nmd_no {s x : List UInt8} (h : nmdB s = true) (hx : nmdB x = false) : s ≠ x := by rintro rfl; rw [h] at hx; cases hx
theorem nw125 : nmdB [125] = false := by decide +kernel
end
section
open Go.ChangeShapes Go.WideShapes Go.ChangeAt Go.RowKit
def laidPl9 : List (String × DataW Unit) := laidPl ++ [("sacristy/show.words", Rows.laid_sacristy_show_words)]
def laidAll9 : List (String × DataW Unit) := laidAll ++ [("sacristy/show.words", Rows.laid_sacristy_show_words)]
theorem laid_split9 {W : World} (h : laidMetH Tryz.prog laidAll9 W) : laidMet Tryz.prog laidPl9 W ∧ handlesMet Tryz.prog [("errors.errorType", Rows.laid_errors_errorType)] W := h
def swL : List (List UInt8) := [[], [108, 101, 116], [], [98, 117, 102], [], [105, 102], [119, 104, 105, 108, 101], [102, 111, 114], [118, 105, 101, 119], [109, 111, 118, 101], [111, 112, 101, 110], [99, 97, 108, 108], [115, 101, 97, 108]]
def SwOk (w : World) : Prop := ∀ j < 13, w.cell? ⟨6, j, none⟩ = some (.string (str (swL.getD j [])))
def swLv : List (Nat × Value) := (List.range 13).flatMap fun j => [(j, .string (str (swL.getD j [])))]
theorem gSw : Tryz.prog.globalNamed "sacristy/show.words" = some 6 := by kernel_rfl
theorem tSw : (Tryz.prog.globals[6]?).map (·.type) = some 239 := by kernel_rfl
theorem lSw : leaves Tryz.prog 5 239 0 Rows.laid_sacristy_show_words = some swLv := by kernel_rfl
theorem sw_of {W : World} (h : laidMet Tryz.prog laidPl9 W) : SwOk W := fun k hk => by
 obtain ⟨ps, hv, _⟩ := h
 have hl := laidVars_leaves "sacristy/show.words" Rows.laid_sacristy_show_words 6 239 5 swLv gSw tSw lSw _ ps (List.mem_append_right laidPl (List.Mem.head _)) hv
 exact hl _ (List.mem_flatMap.2 ⟨k, List.mem_range.2 hk, List.Mem.head _⟩)
theorem SwOk.of {w w' : World} (h : SwOk w) (hb : Below w.heap.size w w') : SwOk w' := fun j hj => stay hb (h j hj)
theorem sub9 : ∀ x ∈ laidPl, x ∈ laidPl9 := fun x h => List.mem_append_left _ h
theorem tb_of_laid9 {W : World} (h : laidMetH Tryz.prog laidAll9 W) : Tb W ∧ SwOk W := by
 obtain ⟨h1, h2⟩ := laid_split9 h
 exact ⟨⟨words_of sub9 h1, signs_of sub9 h1, pow_of sub9 h1, ety_of h2, syn_of sub9 h1, ran_of sub9 h1, esigns_of sub9 h1, kinds_of sub9 h1⟩, sw_of h1⟩
theorem door_met9 (os : Os) (args : Array Value) : laidMetH Tryz.prog laidAll9 ((World.doorLaid Tryz.prog 400 os).forCall (fun _ _ => 0) ⟨#[], args, []⟩).memory :=
 laidMetH_of_parts3 (fuel := 8) (laidMet_of_run' 8 (by kernel_rfl) (by kernel_rfl)) (by kernel_rfl) (by kernel_rfl)
theorem rword_any (s : List UInt8) (B : Nat) (l : Value) (T : List (Tk × Int)) (w : World) (ho : w.ownsRow B 95 4 l T.length (cellsZ T)) (hB : B ≤ w.heap.size) (hl : T.length ≤ 1000000) :
  Calls Tryz.prog 115 #[l, .string (str s)] w fun r w' => ∃ l', r = .returned l' ∧ Tl B w w' l l' (T ++ zs [wdT s]) := by
 obtain ⟨i0, hi, hz0, hz1, hz2⟩ := info_parts infoT
 obtain ⟨M, hM⟩ : ∃ M, M = T.length := ⟨_, rfl⟩
 rw [← hM] at ho hl
 have HM := Lib.hid hM
 clear hM
 go_enter Tryz.func115, Tryz.ntmps115
 go_wp2_with (at_builtin; refine wpList_append_lies _ rfl _ _ 63 rfl B 95 i0 _ 4 40 Tryz.underlying63 hi hz0 hz1 hz2 rfl (by decide) l M (cellsZ T) rfl (ho.alloc _) ⟨w.heap.size, 0, none⟩ 1 1 (cellsZ (zs [wdT s])) rfl rfl ?cN ?c0 (by decide) ?c1 ?c2 ?c3 _ rfl ?_)
 case cN => exact news_ok (cellsZ (zs [wdT s])) 95 w
 case c0 => exact cellsZ_one _
 case c1 => unfold maxLen; omega
 case c2 => omega
 case c3 => simp; omega
 intro g cap' w5 hown hgrow hat hlt
 go_wp2
 go_ret
 exact ⟨_, rfl, (tl_append hown HM.out rfl hgrow hat (by simp)).pre (aB (Below.refl _ _) _)⟩
theorem rname_any (s : List UInt8) (B : Nat) (l : Value) (T : List (Tk × Int)) (w : World) (ho : w.ownsRow B 95 4 l T.length (cellsZ T)) (hB : B ≤ w.heap.size) (hl : T.length ≤ 1000000) :
  Calls Tryz.prog 116 #[l, .string (str s)] w fun r w' => ∃ l', r = .returned l' ∧ Tl B w w' l l' (T ++ zs [nmT s]) := by
 obtain ⟨i0, hi, hz0, hz1, hz2⟩ := info_parts infoT
 obtain ⟨M, hM⟩ : ∃ M, M = T.length := ⟨_, rfl⟩
 rw [← hM] at ho hl
 have HM := Lib.hid hM
 clear hM
 go_enter Tryz.func116, Tryz.ntmps116
 go_wp2_with (at_builtin; refine wpList_append_lies _ rfl _ _ 63 rfl B 95 i0 _ 4 40 Tryz.underlying63 hi hz0 hz1 hz2 rfl (by decide) l M (cellsZ T) rfl (ho.alloc _) ⟨w.heap.size, 0, none⟩ 1 1 (cellsZ (zs [nmT s])) rfl rfl ?cN ?c0 (by decide) ?c1 ?c2 ?c3 _ rfl ?_)
 case cN => exact news_ok (cellsZ (zs [nmT s])) 95 w
 case c0 => exact cellsZ_one _
 case c1 => unfold maxLen; omega
 case c2 => omega
 case c3 => simp; omega
 intro g cap' w5 hown hgrow hat hlt
 go_wp2
 go_ret
 exact ⟨_, rfl, (tl_append hown HM.out rfl hgrow hat (by simp)).pre (aB (Below.refl _ _) _)⟩
theorem Tl.refl {B : Nat} {w : World} {l : Value} {T : List (Tk × Int)} (h : w.ownsRow B 95 4 l T.length (cellsZ T)) : Tl B w w l l T := ⟨h, Only.refl _ _, fun j hj => .inl hj⟩
theorem Tl.alloc {B : Nat} {w w' : World} {l l' : Value} {T : List (Tk × Int)} (h : Tl B w w' l l' T) (o : Obj) : Tl B w (w'.alloc o) l l' T := h.post (aB (Below.refl _ _) _)
theorem rsign_any (ss : List (List UInt8)) (k n : Nat) (B : Nat) (l : Value) (T : List (Tk × Int)) (w : World) (hn : ss.length = n) (hk : ∀ j (h : j < ss.length), w.cell? ⟨k, j, none⟩ = some (.string (str ss[j]))) (hkl : k < w.heap.size) (hkn : l.ownBlock ≠ some k)
  (ho : w.ownsRow B 95 4 l T.length (cellsZ T)) (hB : B ≤ w.heap.size) (hl : T.length + ss.length ≤ 1000000) :
  Calls Tryz.prog 117 #[l, .slice (some ⟨k, 0, none⟩) n n] w fun r w' => ∃ l', r = .returned l' ∧ Tl B w w' l l' (T ++ zs (ss.map sg)) := by
 obtain ⟨i0, hi, hz0, hz1, hz2⟩ := info_parts infoT
 have HN := Lib.hid hn
 have hl' : T.length + n ≤ 1000000 := by omega
 have HK := Lib.hid hk
 clear hn hk hl
 go_enter Tryz.func117, Tryz.ntmps117
 go_wp2
 go_loopw [0, 9] (fun l1 i wr => ∃ j : Nat, j ≤ n ∧ i = .int .i64 j ∧ Tl B w wr l l1 (T ++ zs ((ss.take j).map sg))) (fun _ i _ => n - (intOf i).toNat)
 case atStart => exact ⟨0, by omega, rfl, by simpa [zs] using Tl.refl ho⟩
 case round =>
  obtain ⟨j, hj, rfl, hT⟩ := hrel
  by_cases hlt : j < n
  ·have hlt' : j < ss.length := by rw [HN.out]; exact hlt
   have cj : wr.cell? ⟨k, j, none⟩ = some (.string (str ss[j])) := hT.only.cell (by simpa using hkn) (HK.out j hlt')
   have hkr : k < wr.heap.size := Nat.lt_of_lt_of_le hkl hT.only.size
   have hTl : (T ++ zs ((ss.take j).map sg)).length ≤ 1000000 := by simp [zs]; omega
   have ho1 := hT.own
   have HT := Lib.hid hT
   clear hT
   generalize hT0 : T ++ zs ((ss.take j).map sg) = T1 at *
   have HT0 := Lib.hid hT0
   clear hT0
   obtain ⟨M, hM⟩ : ∃ M, M = T1.length := ⟨_, rfl⟩
   rw [← hM] at ho1 hTl
   have HM := Lib.hid hM
   clear hM
   obtain ⟨s, hs⟩ : ∃ s, s = ss[j] := ⟨_, rfl⟩
   rw [← hs] at cj
   have HS := Lib.hid hs
   clear hs
   go_wp2_with (at_builtin; refine wpList_append_lies _ rfl _ _ 63 rfl B 95 i0 _ 4 40 Tryz.underlying63 hi hz0 hz1 hz2 rfl (by decide) _ M (cellsZ T1) rfl (ho1.alloc _) ⟨wr.heap.size, 0, none⟩ 1 1 (cellsZ (zs [sg s])) rfl rfl ?cN ?c0 (by decide) ?c1 ?c2 ?c3 _ rfl ?_)
   case cN => first | exact news_ok (cellsZ (zs [sg s])) 95 wr | exact fun j u h => h
   case c0 => exact cellsZ_one _
   case c1 => unfold maxLen; omega
   case c2 => omega
   case c3 => have := HT.out.only.size; simp; omega
   intro g cap' w5 hown hgrow hat hlt5
   have hT5 := HT.out.trans ((tl_append hown HM.out rfl hgrow hat (by simp)).pre (aB (Below.refl _ _) _))
   go_wp2
   go_roundw
   case rel => exact ⟨j + 1, by omega, by go_num, by rw [List.take_succ_eq_append_getElem hlt', List.map_append, zs_app, ← List.append_assoc, HT0.out, ← HS.out]; exact hT5⟩
   case measure => simp [intOf]; omega
  ·obtain rfl : j = n := by omega
   go_wp2
   go_ret
   rw [List.take_of_length_le (by rw [HN.out]; exact Nat.le_refl _)] at hT
   exact ⟨_, rfl, hT⟩
theorem append_tu {P : Program} {t u ty e e' : TypeId} (ht : P.underlying t = some (.slice e)) (hu : P.underlying u = some (.slice e')) (b b2 : Option Addr) (n c n2 c2 : Nat) (w : World) : (Builtin.append_ #[t, u] ty #[.slice b n c, .slice b2 n2 c2]).run P w = (Builtin.append_ #[t, t] ty #[.slice b n c, .slice b2 n2 c2]).run P w := by
 unfold Builtin.append_
 simp [go_sem, run_underlying ht, run_underlying hu]
theorem wpAnyK_inv {P : Program} {md : Region.Mode} {ops : Array Oper} {Q : Exit → Act → World → Prop} {F : World → Prop} (Inv : Nat → Array Bool → Act → World → Prop)
  (h : ∀ f L a w, Inv f L a w → wpAnyK P md ops Q F f L a w ∨ ∃ n, f = n + 1 ∧ Region.ready md ops L ≠ [] ∧ ∀ i ∈ Region.ready md ops L, wpOp P ops Q i (fun a' w' => F w' ∧ Inv n (L.setIfInBounds i true) a' w') a w) :
  ∀ f L a w, Inv f L a w → wpAnyK P md ops Q F f L a w := by
 intro f
 induction f with
 | zero =>
  intro L a w hi
  rcases h 0 L a w hi with h | ⟨n, hn, _⟩
  ·exact h
  ·omega
 | succ f ih =>
  intro L a w hi
  rcases h (f + 1) L a w hi with h | ⟨n, hn, hr, hs⟩
  ·exact h
  ·obtain rfl : f = n := by omega
   exact ⟨fun e => absurd e hr, fun i hm => wpOp_mono (fun a' w' hk => ⟨hk.1, ih _ _ _ hk.2⟩) (hs i hm)⟩
theorem rd {md : Region.Mode} {ops : Array Oper} {L : Array Bool} {i : Nat} {o : Oper} (h : L.getD i true = false) (ho : ops[i]? = some o) (ha : (o.after.toList.all fun e => !Region.binds md e || L.getD e.on false) = true) : i ∈ Region.ready md ops L :=
 mem_ready.2 ⟨h, o, ho, fun e he hb => by
  have := List.all_eq_true.1 ha e (by simpa using he)
  simpa [hb] using this⟩
theorem bt {b : Bool} (h : b = false → False) : b = true := by cases b with | true => rfl | false => exact (h rfl).elim
theorem bff {c : Bool} (e : c = true → false = true) : c = false := by cases c with | false => rfl | true => cases e rfl
def HasS (C : Array Value) (t : TypeId) (k : Nat) (w : World) : Prop := w.heap[k]? = some (.cells C t (0, 0))
theorem HasS.lt {C : Array Value} {t : TypeId} {k : Nat} {w : World} (h : HasS C t k w) : k < w.heap.size := (Array.getElem?_eq_some_iff.1 h).1
theorem HasS.new (C : Array Value) (t : TypeId) (w : World) : HasS C t w.heap.size (w.alloc (.cells C t)) := World.alloc_heap_new w _
theorem HasS.alloc {C : Array Value} {t : TypeId} {k : Nat} {w : World} (h : HasS C t k w) (o : Obj) : HasS C t k (w.alloc o) := (Below.heap_alloc _ _ _ h.lt).trans h
theorem HasS.below {C : Array Value} {t : TypeId} {k : Nat} {w w' : World} (h : HasS C t k w) (hb : Below w.heap.size w w') : HasS C t k w' := (hb.block _ h.lt).trans h
theorem HasS.ne {C : Array Value} {t : TypeId} {k B n : Nat} {w : World} {l : Value} {xs : List Value} (h : HasS C t k w) (ht : t ≠ 95) (ho : w.ownsRow B 95 4 l n xs) : l.ownBlock ≠ some k := fun e => by
 rcases ho.2 with ⟨h0, _⟩ | ⟨g, cap, cur, hv, hg, hh, hr⟩
 ·rw [h0] at e; cases e
 ·rw [hv] at e
  cases e
  rw [h] at hh
  cases hh
  exact ht rfl
theorem HasS.call {C : Array Value} {t : TypeId} {k B n : Nat} {w w' : World} {l : Value} {xs : List Value} (h : HasS C t k w) (ht : t ≠ 95) (ho : w.ownsRow B 95 4 l n xs) (hu : Only (fun j => l.ownBlock = some j) w w') : HasS C t k w' :=
 (hu.block _ h.lt (h.ne ht ho)).trans h
theorem HasS.cell {C : Array Value} {t : TypeId} {k : Nat} {w : World} (h : HasS C t k w) (i : Nat) : w.cell? ⟨k, i, none⟩ = C[i]? := by
 unfold World.cell?
 rw [h]
 simp
theorem hasS_strs {ss : List (List UInt8)} {t : TypeId} {k : Nat} {w : World} (h : HasS (strC ss).toArray t k w) : ∀ j (hj : j < ss.length), w.cell? ⟨k, j, none⟩ = some (.string (str ss[j])) := fun j hj => by
 rw [h.cell]
 simp [strC, hj]
theorem own_built (w : World) (B : Nat) (hB : B ≤ w.heap.size) : (w.alloc (.cells #[] 95)).ownsRow B 95 4 (.slice (some ⟨w.heap.size, 0, none⟩) 0 0) 0 [] :=
 ⟨rfl, .inr ⟨w.heap.size, 0, #[], rfl, hB, World.alloc_heap_new w _, Nat.le_refl _, by unfold maxLen; omega, rfl, rfl⟩⟩
theorem rsign_c {ss : List (List UInt8)} {K B : Nat} {W w : World} {l0 l : Value} {T : List (Tk × Int)} (n : Nat) (h : HasS (strC ss).toArray 9 K w) (hT : Tl B W w l0 l T) (hB : B ≤ w.heap.size) (hn : ss.length = n) (hl : T.length + ss.length ≤ 1000000) :
  Calls Tryz.prog 117 #[l, .slice (some ⟨K, 0, none⟩) n n] w fun r w' => ∃ l', r = .returned l' ∧ Tl B w w' l l' (T ++ zs (ss.map sg)) :=
 rsign_any ss K n B l T w hn (hasS_strs h) h.lt (h.ne (by decide) hT.own) hT.own hB hl
structure Wr (B : Nat) (w : World) : Prop where
 tb : Tb w
 le : B ≤ w.heap.size
 gb : ∀ j, GB j → j < B
theorem Wr.only {B : Nat} {S : Nat → Prop} {w w' : World} (h : Wr B w) (ho : Only S w w') (hs : ∀ j, S j → B ≤ j) : Wr B w' :=
 ⟨h.tb.only ho (fun j hj hS => by have := hs j hS; have := h.gb j hj; omega), Nat.le_trans h.le ho.size, h.gb⟩
theorem Wr.below {B : Nat} {w w' : World} (h : Wr B w) (hb : Below w.heap.size w w') : Wr B w' := h.only (only_below (S := fun _ => False) hb) (fun _ h => h.elim)
theorem own_ge {B n : Nat} {w : World} {l : Value} {xs : List Value} (h : w.ownsRow B 95 4 l n xs) : ∀ j, l.ownBlock = some j → B ≤ j := fun j hj => (own_lt h hj).1
end
end Go.Proofs.YtkibkaoffgnmkaaGreatDoor
