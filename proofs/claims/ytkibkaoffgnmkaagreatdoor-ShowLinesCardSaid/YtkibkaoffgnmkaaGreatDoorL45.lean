/- Contract of Show: it answers the text that shows the program. -/
import Derived.Test.YtkibkaoffgnmkaaGreatDoorL44
import Derived.Test.YtkibkaoffgnmkaaGreatDoorL19
import Derived.Test.YtkibkaoffgnmkaaGreatDoorL11
import Derived.Test.YtkibkaoffgnmkaaGreatDoorL38
namespace Go.Proofs.YtkibkaoffgnmkaaGreatDoor
set_option linter.unusedVariables false
set_option linter.unusedSimpArgs false
set_option maxRecDepth 100000
set_option maxHeartbeats 200000000
section
open Go Go.ChangeShapes Go.WideShapes Go.ChangeAt Go.RowKit m9
attribute [local go_sem] Oper.semAt_some
theorem own_others {A A' : World} {b B n : Nat} {v : Value} {xs : List Value} {T : TypeId} {bs : List Value} {B0 : Nat} (h : A.ownsRow B 95 4 v n xs) (hO : Lib.OthersKept 5 (some b) A A') (hb : Lib.IsBuilderF T 5 B0 b bs A) (hT : T ≠ 95) : A'.ownsRow B 95 4 v n xs := by
 obtain ⟨p, hp⟩ : ∃ p, A.heap[b]? = some (.cells p T (0, 0)) := by
  rcases hb with ⟨_, v, h2, _⟩ | ⟨_, v, h2, _⟩ <;> exact ⟨_, h2⟩
 refine ⟨h.1, ?_⟩
 rcases h.2 with h0 | ⟨g, cap, cur, hv, hg, hh, hr⟩
 ·exact Or.inl h0
 ·refine Or.inr ⟨g, cap, cur, hv, hg, hO g _ hh (fun e => ?_) (fun c fz e => ?_), hr⟩
  ·injection e with e
   subst e
   rw [hh] at hp
   cases hp
   exact hT rfl
  ·injection e with _ e2 _
   exact absurd e2 (by decide)
theorem bare_z (T : List Tk) : bare (T.map fun t => (t, 0)) = T := by
 unfold bare
 rw [List.map_map]
 exact (List.map_congr_left (fun x _ => rfl)).trans (List.map_id T)
theorem HasS.others {C : Array Value} {t : TypeId} {k b : Nat} {w w' : World} (h : HasS C t k w) (hO : Lib.OthersKept 5 (some b) w w') (hk : k ≠ b) (ht : t ≠ 5) : HasS C t k w' := hO k _ h (fun e => by injection e with e; exact hk e) (fun c fz e => by injection e with _ e2 _; exact ht e2)
theorem show_no (l : List Fd) (ma : Option Addr) (cap : Nat) (w : World) (hF : FdsAt (fun b => b < w.heap.size) w l ma) (hl : l.length ≤ 140737488355328) (hTb : Tb w) (h : pgB l = false) :
  Calls Tryz.prog 10 #[.agg #[.slice ma l.length cap]] w fun r w' => r = .returned (.tuple #[.string ⟨#[]⟩, .int .i64 2]) ∧ Below w.heap.size w w' := by
 obtain ⟨W, hW⟩ : ∃ W, w.alloc (.cells #[.slice ma l.length cap] 24) = W := ⟨_, rfl⟩
 have hBW : Below w.heap.size w W := by rw [← hW]; exact aB (Below.refl _ _) _
 have hr : rowG #[.slice ma l.length cap] W w.heap.size := by rw [← hW]; exact rowG_at _ _ _ _ rfl
 have u0 : W.cell? ⟨w.heap.size, 0, none⟩ = some (.slice ma l.length cap) := hr.1 0 (by simp)
 have hlt := hr.2.2
 have hc := chk_any l ma cap W ((hF.of hBW).mono (fun b hb => Nat.lt_of_lt_of_le hb hBW.size)) hl (hTb.of hBW)
 rw [h] at hc
 simp only [Bool.false_eq_true, if_false] at hc
 clear hF
 generalize l.length = N at *
 go_enter Tryz.func10, Tryz.ntmps10
 go_wp2_with (go_at_call 14; ((with_reducible refine hc.mono ?_); (rintro e w1 ⟨rfl, hb⟩)))
 go_ret2
 exact ⟨rfl, hBW.trans (hb.mono hBW.size)⟩
theorem show_yes (l : List Fd) (ma : Option Addr) (cap : Nat) (w : World) (hF : FdsAt (fun b => b < w.heap.size) w l ma) (hl : l.length ≤ 140737488355328) (hTb : Tb w) (hSw : SwOk w) (h : pgB l = true) (hd : ∀ f ∈ l, f.nd) (hnb : ∀ f ∈ l, f.nb) :
  Calls Tryz.prog 10 #[.agg #[.slice ma l.length cap]] w fun r w' => r = .returned (.tuple #[.string (str (shoT l)), .int .i64 0]) ∧ Below w.heap.size w w' := by
 have hdd : ∀ k : Nat, (Fence.wide.depth.isSome = true → 1 ≤ k) := room_none
 obtain ⟨W, hW⟩ : ∃ W, w.alloc (.cells #[.slice ma l.length cap] 24) = W := ⟨_, rfl⟩
 have hBW : Below w.heap.size w W := by rw [← hW]; exact aB (Below.refl _ _) _
 have hr : rowG #[.slice ma l.length cap] W w.heap.size := by rw [← hW]; exact rowG_at _ _ _ _ rfl
 have u0 : W.cell? ⟨w.heap.size, 0, none⟩ = some (.slice ma l.length cap) := hr.1 0 (by simp)
 have hlt := hr.2.2
 have hc := chk_any l ma cap W ((hF.of hBW).mono (fun b hb => Nat.lt_of_lt_of_le hb hBW.size)) hl (hTb.of hBW)
 rw [h] at hc
 simp only [if_true] at hc
 obtain ⟨hsh, hln, hct⟩ := pg_all l h hd hnb
 have hne := pgL_ne l
 have hsq := fun c n => lines_seq l ma l.length cap c w hTb hSw hF rfl hl hsh n
 have htot := lns_len (pgL l) hln
 have HTX : Hid (shoT l = lnsT (pgL l)) := Lib.hid rfl
 have HSX := Lib.hid (rfl : shoT l = shoT l)
 clear hF hsh h hd hnb
 generalize hLL : pgL l = LL at *
 generalize hST : shoT l = ST at *
 have hst : ST = lnsT LL := HTX.out
 have HST := Lib.hid hst
 clear HTX HSX hst hST hLL
 generalize l.length = N at *
 refine (callsIn_wide (n := 4)).1 ?_
 refine callsIn_of_wp_marks Tryz.func10 rfl trivial ?_
 simp only [Tryz.ntmps10, List.size_toArray, List.length_cons, List.length_nil, Nat.reduceAdd, Nat.reduceSub, Array.replicate_succ, Array.replicate_zero, List.push_toArray, List.append_toArray, List.nil_append, List.cons_append]
 gi_wp2_with (first | (refine ⟨trivial, ?_⟩; gi_at_call 14; (with_reducible refine (callsIn_wide.2 hc).mono ?_); clear hc; rintro e w1 ⟨rfl, hb1⟩; have u1 := stay hb1 u0; have hl1 := Nat.lt_of_lt_of_le hlt hb1.size) | (refine ⟨trivial, ?_⟩; gi_at_call 19; (with_reducible refine (callsIn_wide.2 (lines_any ma N cap _)).mono ?_); rintro e w2 ⟨rfl, hw2⟩))
 have hz2 : w2.heap.size = w1.heap.size + 1 + 1 := by rw [hw2]; simp
 have hbB : w.heap.size ≤ w1.heap.size := Nat.le_of_lt hl1
 have hB2 : Below w.heap.size w w2 := by rw [hw2]; exact ((hBW.trans (hb1.mono hBW.size)).alloc hbB _).alloc (by simp; omega) _
 have hbd0 : Lib.IsBuilderF 58 5 w1.heap.size w1.heap.size [] w2 := .inl ⟨Nat.le_refl _, .slice none 0 0, by rw [hw2]; exact (HasS.new #[.pointer none, .slice none 0 0] 58 w1).alloc _, World.ownsRowF_nil _ _ _ _, fun e => by cases e⟩
 have hc2 : HasS #[.slice ma N cap] 24 (w1.heap.size + 1) w2 := by rw [hw2]; have := HasS.new #[.slice ma N cap] 24 (w1.alloc (.cells #[.pointer none, .slice none 0 0] 58)); rw [World.size_alloc] at this; exact this
 rw [← hw2]
 clear hw2 u1
 refine range_r (e := 5) (by omega) (gf := 38) (lb := #[.pointer (some ⟨w1.heap.size + 1, 0, none⟩)]) rfl (enters_of Tryz.func38 (by kernel_rfl) rfl) (hsq (w1.heap.size + 1) 3)
  (fun A hb => ⟨hB2.trans (hb.mono hB2.size), (hc2.below hb).cell 0⟩) (fun _ => rfl) (fun k x A A' h hc => relL_ck h hc)
  (fun k A => Lib.IsBuilderF 58 5 w1.heap.size w1.heap.size (Lib.byteCells (lnsT (LL.take k))) A ∧ Below w.heap.size w A ∧ HasS #[.slice ma N cap] 24 (w1.heap.size + 1) A)
  (fun k A h => ⟨h.2.1, h.2.2.cell 0⟩)
  (fun k A A' h hk => ⟨ki_builder hk (by omega) h.1, ki_below0 hk (by omega) h.2.1, hk.at' _ _ h.2.2 (.inl (by omega))⟩)
  ⟨by simpa [lnsT, Lib.byteCells] using hbd0, hB2, hc2⟩
  (fun x a' A => a' = ⟨#[.agg #[.slice ma N cap], .pointer (some ⟨w.heap.size, 0, none⟩), .string ⟨#[]⟩, .int .i64 0, .int .i64 0, .pointer (some ⟨w1.heap.size, 0, none⟩), .int .i64 x.1, x.2, .agg #[.slice ma N cap], .int .i64 0, .int .i64 0, .bool false, undef, .agg #[.slice ma N cap], .func (.func 38) #[] #[.pointer (some ⟨w1.heap.size + 1, 0, none⟩)], .int .i64 x.1, x.2, undef, undef, undef, undef, undef, undef, undef, undef], []⟩)
  (fun x a' A A' h _ => h)
  ?assign ?body ?done
 case assign =>
  intro lq x A K hs hK
  gi_wp2
  exact hK _ _ (Below.refl _ _) rfl
 case body =>
  rintro lq k ⟨xi, xv⟩ a' A hs ⟨h1, h2, h3⟩ ⟨d, T, hk1, hxd, hown⟩ rfl hk
  simp only at hxd hown
  subst hxd
  have hmem := List.mem_of_getElem? hk1
  obtain ⟨hd41, htl, htk⟩ := hln _ hmem
  have hT0 := hne _ hmem
  simp only at hd41 htl htk hT0
  have hjl := joinT_len htk
  have htk1 := lns_take LL k d T hk1
  have hle := lns_le LL (k + 1)
  have hbl : w1.heap.size < A.heap.size := by omega
  have hbA : w1.heap.size ≤ A.heap.size := by omega
  have hP : (lnsT (LL.take k)).length + (2 * d + ((joinT T).length + 1)) ≤ 11700000000 := by
   have e : (lnT d T).length = 2 * d + ((joinT T).length + 1) := by simp [lnT]
   rw [htk1, List.length_append, e] at hle
   omega
  have HTK := Lib.hid htk1
  generalize hPe : lnsT (LL.take k) = P at *
  have HPE := Lib.hid hPe
  clear hPe htk1 hle hmem
  have hrs : (⟨(Lib.repeatL (⟨#[32, 32]⟩ : ByteArray).data.toList d).toArray⟩ : ByteArray) = str (List.replicate (2 * d) 32) := by rw [show (⟨#[32, 32]⟩ : ByteArray).data.toList = [32, 32] from rfl, repL]; rfl
  have hrp := bd_rp ⟨#[32, 32]⟩ d A (by omega) (by show 2 * d ≤ _; omega)
  rw [hrs] at hrp
  clear hrs
  gi_wp2_with (first | (refine ⟨trivial, ?_⟩; gi_at_call 21; refine (CallsIn.inRound lq (callsIn_wide.2 hrp)).mono ?_; clear hrp; rintro e A1 ⟨rfl, hb1a⟩; have hbd1 := below_builder hb1a hbl h1; have hs1 := Nat.le_trans hbA hb1a.size; have hws := bd_ws w1.heap.size w1.heap.size _ (str (List.replicate (2 * d) 32)) A1 hbd1 (by rw [Lib.byteCells_length, str_size, List.length_replicate]; omega) hs1) | (refine ⟨trivial, ?_⟩; gi_at_call 20; refine (CallsIn.inRound lq (callsIn_wide.2 hws)).mono ?_; clear hws; rintro e A2 ⟨rfl, hAt2, hB2a, hO2⟩; have hbd2 : Lib.IsBuilderF _ _ _ _ _ _ := .inr hAt2; have hs2 := Nat.le_trans hs1 hB2a.size; have hown1 := own_ck hown (fun j c t fz hj => (hb1a.block _ (lt_of_heap hj)).trans hj); have hown2 := own_others hown1 hO2 hbd1 (by decide); have hBA2 : Below w.heap.size w A2 := (h2.trans (hb1a.mono h2.size)).trans (hB2a.mono hbB); have hjn := join_any xv (T.map fun t => (t, 0)) A2 (own_rowAt hown2 hT0) (by simp; omega) (toks_kok htk) (by rw [bare_z]; omega) (hTb.of hBA2); (rw [bare_z] at hjn)) | (refine ⟨trivial, ?_⟩; gi_at_call 22; refine (CallsIn.inRound lq (callsIn_wide.2 hjn)).mono ?_; clear hjn; rintro e A3 ⟨rfl, hb3a⟩; have hbl2 : w1.heap.size < A2.heap.size := Nat.lt_of_lt_of_le hbl (Nat.le_trans hb1a.size hB2a.size); have hbd3 := below_builder hb3a hbl2 hbd2; have hs3 := Nat.le_trans hs2 hb3a.size; have hws2 := bd_ws w1.heap.size w1.heap.size _ (str (joinT T)) A3 hbd3 (by rw [List.length_append, Lib.byteCells_length, Lib.strCells_length, str_size, str_size, List.length_replicate]; omega) hs3) | (refine ⟨trivial, ?_⟩; gi_at_call 20; refine (CallsIn.inRound lq (callsIn_wide.2 hws2)).mono ?_; clear hws2; rintro e A4 ⟨rfl, hAt4, hB4a, hO4⟩; have hbd4 : Lib.IsBuilderF _ _ _ _ _ _ := .inr hAt4; have hs4 := Nat.le_trans hs3 hB4a.size; have hwb := bd_wb w1.heap.size w1.heap.size _ 10 A4 hbd4 (by rw [List.length_append, List.length_append, Lib.byteCells_length, Lib.strCells_length, Lib.strCells_length, str_size, str_size, List.length_replicate]; omega) hs4) | (refine ⟨trivial, ?_⟩; gi_at_call 23; refine (CallsIn.inRound lq (callsIn_wide.2 hwb)).mono ?_; clear hwb; rintro e A5 ⟨rfl, hAt5, hB5a, hO5⟩))
  have hbn : w1.heap.size < w2.heap.size := by omega
  have hBA3 : Below w.heap.size w A3 := hBA2.trans (hb3a.mono hBA2.size)
  have hBA5 : Below w.heap.size w A5 := (hBA3.trans (hB4a.mono hbB)).trans (hB5a.mono hbB)
  have hkp : Kp 5 w2.heap.size A A5 := (kp_below hb1a).trans ((kp_others hO2 hbn hB2a.size).trans ((kp_below hb3a).trans ((kp_others hO4 hbn hB4a.size).trans (kp_others hO5 hbn hB5a.size))))
  have hcn : w1.heap.size + 1 ≠ w1.heap.size := by omega
  have hc5 := ((((h3.below hb1a).others hO2 hcn (by decide)).below hb3a).others hO4 hcn (by decide)).others hO5 hcn (by decide)
  have hbs : Lib.byteCells P ++ Lib.strCells (str (List.replicate (2 * d) 32)) ++ Lib.strCells (str (joinT T)) ++ [.int .u8 10] = Lib.byteCells (lnsT (LL.take (k + 1))) := by
   rw [HTK.out]
   unfold lnT
   rw [Lib.byteCells_append, Lib.byteCells_append, Lib.byteCells_append, Lib.strCells_eq, Lib.strCells_eq, str_list, str_list, List.append_assoc, List.append_assoc]
   rfl
  rw [hbs] at hAt5
  exact ⟨hkp, .inr hAt5, hBA5, hc5⟩
 case done =>
  rintro D A hD ⟨h1, h2, h3⟩ hK
  rw [List.take_length] at h1
  have hstr : Calls Tryz.prog 24 #[.pointer (some ⟨w1.heap.size, 0, none⟩)] A fun e w' => e = .returned (.string ⟨(lnsT LL).toArray⟩) ∧ (Lib.IsBuilderF 58 5 w1.heap.size w1.heap.size (Lib.byteCells (lnsT LL)) w' ∧ Below w1.heap.size A w' ∧ Lib.OthersKept 5 (some w1.heap.size) A w') := Any.Builder_String_any_k { Llays105 with } LBuilder_Extra_105 w1.heap.size w1.heap.size (lnsT LL) A h1 (by have := (Array.getElem?_eq_some_iff.1 hK).1; omega)
  gi_wp2_with (refine ⟨trivial, ?_⟩; gi_at_call 24; (with_reducible refine (callsIn_wide.2 hstr).mono ?_); clear hstr; rintro e A7 ⟨rfl, hS7, hB7, hO7⟩)
  have hK7 : A7.heap[D]? = some (.deferred (some [])) := hO7 D _ hK (fun e => by injection e with e; omega) (fun c fz e => by cases e)
  have hBf := h2.trans (hB7.mono hbB)
  refine ⟨by simp, .inl ⟨_, _, rfl, run_takeDeferred hK7, ?_⟩⟩
  refine ⟨.tuple #[.string ⟨(lnsT LL).toArray⟩, .int .i64 0], ?_, by rw [HST.out]; rfl, hBf.trans ⟨rfl, rfl, rfl, by simp, fun j hj => World.putObj_heap_other (by omega)⟩⟩
  simp [results, Tryz.f10, go_sem]
end
section
open Go.ChangeShapes Go.WideShapes Go.ChangeAt Go.RowKit
def alF : Fd := ⟨[102], [⟨[110], false, false, false⟩], [.mk 1 [120] [] false false [.mk 2 0 [110] 0 []] [] [] []], false, [.mk 2 0 [120] 0 []]⟩
def alO : Fd := ⟨[], [], [], false, []⟩
def alT : List UInt8 := [102, 110, 32, 102, 32, 40, 32, 110, 117, 109, 32, 110, 32, 41, 32, 123, 10, 32, 32, 108, 101, 116, 32, 120, 32, 61, 32, 110, 32, 59, 10, 125, 32, 61, 32, 120, 32, 59, 10]
theorem alF_may : pgB [alF] = true := by decide +kernel
theorem alO_may : pgB [alO] = false := by decide +kernel
theorem alF_txt : shoT [alF] = alT := by decide +kernel
theorem alF_nd : ∀ f ∈ [alF], f.nd := fun f hf => by
 rw [List.mem_singleton.1 hf]
 refine ⟨?_, ?_⟩
 ·show ndS [.mk 1 [120] [] false false [.mk 2 0 [110] 0 []] [] [] []]
  rw [ndS, St.nd, ndS]
  exact ⟨⟨fun x hx => by rw [List.mem_singleton.1 hx]; decide, trivial, trivial⟩, trivial⟩
 ·intro x hx
  have hx' : x ∈ [Xp.mk 2 0 [120] 0 []] := hx
  rw [List.mem_singleton.1 hx']
  decide
theorem alF_nb : ∀ f ∈ [alF], f.nb := fun f hf => by
 rw [List.mem_singleton.1 hf]
 refine ⟨?_, ?_⟩
 ·show nbS [.mk 1 [120] [] false false [.mk 2 0 [110] 0 []] [] [] []]
  rw [nbS, St.nb, nbS, nbL, Xp.nb, nbL]
  exact ⟨⟨⟨⟨by omega, trivial⟩, trivial⟩, trivial, trivial⟩, trivial⟩
 ·show nbL [.mk 2 0 [120] 0 []]
  rw [nbL, Xp.nb, nbL]
  exact ⟨⟨by omega, trivial⟩, trivial⟩
def exC (c : UInt8) : Array Value := #[.int .u8 2, .int .u64 0, .string ⟨#[c]⟩, .int .u8 0, .slice none 0 0]
theorem ex_at {G : Nat → Prop} {W : World} {k : Nat} {c : UInt8} (h : HasS (exC c) 47 k W) (hG : G k) : KidsAt G W [.mk 2 0 [c] 0 []] (some ⟨k, 0, none⟩) :=
 .cons hG (h.cell 0) (h.cell 1) (h.cell 2) (h.cell 3) (h.cell 4) (by omega) (by simp) .nil .nil
theorem al_at {G : Nat → Prop} {W : World} {a2 a3 a4 a5 a6 : Nat} (h2 : HasS #[.string ⟨#[110]⟩, .bool false, .bool false, .bool false] 49 a2 W) (h3 : HasS (exC 110) 47 a3 W)
  (h4 : HasS #[.int .u8 1, .string ⟨#[120]⟩, .string ⟨#[]⟩, .bool false, .bool false, .slice (some ⟨a3, 0, none⟩) 1 1, .slice none 0 0, .slice none 0 0, .slice none 0 0] 52 a4 W) (h5 : HasS (exC 120) 47 a5 W)
  (h6 : HasS #[.string ⟨#[102]⟩, .slice (some ⟨a2, 0, none⟩) 1 1, .slice (some ⟨a4, 0, none⟩) 1 1, .bool false, .slice (some ⟨a5, 0, none⟩) 1 1] 43 a6 W) (g2 : G a2) (g3 : G a3) (g4 : G a4) (g5 : G a5) (g6 : G a6) : FdsAt G W [alF] (some ⟨a6, 0, none⟩) := by
 intro i hi
 obtain rfl : i = 0 := by simpa using hi
 refine ⟨a6, 0, ⟨[102], some ⟨a2, 0, none⟩, 1, 1, some ⟨a4, 0, none⟩, 1, 1, false, some ⟨a5, 0, none⟩, 1, 1, alF⟩, rfl, g6, rfl, ?_, ?_⟩
 ·change IsFd G W _ ⟨[102], [⟨[110], false, false, false⟩], [.mk 1 [120] [] false false [.mk 2 0 [110] 0 []] [] [] []], false, [.mk 2 0 [120] 0 []]⟩
  refine IsFd.mk (ps := [⟨[110], false, false, false⟩]) (bd := [.mk 1 [120] [] false false [.mk 2 0 [110] 0 []] [] [] []]) (mp := some ⟨a2, 0, none⟩) (mb := some ⟨a4, 0, none⟩) (mr := some ⟨a5, 0, none⟩) (cp := 1) (cb := 1) (cr := 1) (by simp) (by simp) (by simp) ?_ ?_ (ex_at h5 g5)
  ·intro j hj
   obtain rfl : j = 0 := by simpa using hj
   exact ⟨a2, 0, rfl, g2, h2.cell 0, h2.cell 1, h2.cell 2, h2.cell 3⟩
  ·exact .cons g4 (h4.cell 0) (h4.cell 1) (h4.cell 2) (h4.cell 3) (h4.cell 4) (h4.cell 5) (h4.cell 6) (h4.cell 7) (h4.cell 8) (by omega) (by simp) (by simp) (by simp) (by simp) (ex_at h3 g3) StrsAt.nil .nil .nil .nil
 ·intro r u hu
  have h := h6.cell r
  rw [show (0 + 0 * 5 + r : Nat) = r by omega, h, List.getElem?_toArray]
  exact hu
theorem alO_at {G : Nat → Prop} {W : World} {a : Nat} (h : HasS #[.string ⟨#[]⟩, .slice none 0 0, .slice none 0 0, .bool false, .slice none 0 0] 43 a W) (g : G a) : FdsAt G W [alO] (some ⟨a, 0, none⟩) := by
 intro i hi
 obtain rfl : i = 0 := by simpa using hi
 refine ⟨a, 0, ⟨[], none, 0, 0, none, 0, 0, false, none, 0, 0, alO⟩, rfl, g, rfl, ?_, ?_⟩
 ·change IsFd G W _ ⟨[], [], [], false, []⟩
  exact IsFd.mk (ps := []) (bd := []) (rt := []) (mp := none) (mb := none) (mr := none) (cp := 0) (cb := 0) (cr := 0) (by simp) (by simp) (by simp) (fun j hj => by simp at hj) .nil .nil
 ·intro r u hu
  have h := h.cell r
  rw [show (0 + 0 * 5 + r : Nat) = r by omega, h, List.getElem?_toArray]
  exact hu
theorem HasS.newE {C : Array Value} {t : TypeId} {w : World} {k : Nat} (h : k = w.heap.size) : HasS C t k (w.alloc (.cells C t)) := by subst h; exact HasS.new _ _ _
theorem alive09 (w : World) (hT : Tb w) (hS : SwOk w) : Calls Tryz.prog 8 #[] w fun e w' => e = .returned (.bool true) ∧ Below w.heap.size w w' := by
 obtain ⟨W1, hW1⟩ : ∃ W1, (w.alloc (.cells (exC 120) 47)).alloc (.cells (exC 110) 47) = W1 := ⟨_, rfl⟩
 obtain ⟨W2, hW2⟩ : ∃ W2, ((((W1.alloc (.cells #[.string ⟨#[110]⟩, .bool false, .bool false, .bool false] 49)).alloc (.cells (exC 110) 47)).alloc (.cells #[.int .u8 1, .string ⟨#[120]⟩, .string ⟨#[]⟩, .bool false, .bool false, .slice (some ⟨w.heap.size + 1 + 1 + 1, 0, none⟩) 1 1, .slice none 0 0, .slice none 0 0, .slice none 0 0] 52)).alloc (.cells (exC 120) 47)).alloc (.cells #[.string ⟨#[102]⟩, .slice (some ⟨w.heap.size + 1 + 1, 0, none⟩) 1 1, .slice (some ⟨w.heap.size + 1 + 1 + 1 + 1, 0, none⟩) 1 1, .bool false, .slice (some ⟨w.heap.size + 1 + 1 + 1 + 1 + 1, 0, none⟩) 1 1] 43) = W2 := ⟨_, rfl⟩
 have hz1 : W1.heap.size = w.heap.size + 1 + 1 := by rw [← hW1]; simp
 have hB1 : Below w.heap.size w W1 := by rw [← hW1]; exact aB (aB (Below.refl _ _) _) _
 have hB2 : Below W1.heap.size W1 W2 := by rw [← hW2]; exact aB (aB (aB (aB (aB (Below.refl _ _) _) _) _) _) _
 have hB := hB1.trans (hB2.mono hB1.size)
 have x0 : HasS (exC 120) 47 w.heap.size W1 := by rw [← hW1]; exact (HasS.new _ _ _).alloc _
 have x1 : HasS (exC 110) 47 (w.heap.size + 1) W1 := by rw [← hW1]; exact HasS.newE (by simp)
 have y2 : HasS #[.string ⟨#[110]⟩, .bool false, .bool false, .bool false] 49 (w.heap.size + 1 + 1) W2 := by rw [← hW2]; exact ((((HasS.newE hz1.symm).alloc _).alloc _).alloc _).alloc _
 have y3 : HasS (exC 110) 47 (w.heap.size + 1 + 1 + 1) W2 := by rw [← hW2]; exact (((HasS.newE (by simp only [World.size_alloc]; omega)).alloc _).alloc _).alloc _
 have y4 : HasS #[.int .u8 1, .string ⟨#[120]⟩, .string ⟨#[]⟩, .bool false, .bool false, .slice (some ⟨w.heap.size + 1 + 1 + 1, 0, none⟩) 1 1, .slice none 0 0, .slice none 0 0, .slice none 0 0] 52 (w.heap.size + 1 + 1 + 1 + 1) W2 := by rw [← hW2]; exact ((HasS.newE (by simp only [World.size_alloc]; omega)).alloc _).alloc _
 have y5 : HasS (exC 120) 47 (w.heap.size + 1 + 1 + 1 + 1 + 1) W2 := by rw [← hW2]; exact (HasS.newE (by simp only [World.size_alloc]; omega)).alloc _
 have y6 : HasS #[.string ⟨#[102]⟩, .slice (some ⟨w.heap.size + 1 + 1, 0, none⟩) 1 1, .slice (some ⟨w.heap.size + 1 + 1 + 1 + 1, 0, none⟩) 1 1, .bool false, .slice (some ⟨w.heap.size + 1 + 1 + 1 + 1 + 1, 0, none⟩) 1 1] 43 (w.heap.size + 1 + 1 + 1 + 1 + 1 + 1) W2 := by rw [← hW2]; exact HasS.newE (by simp only [World.size_alloc]; omega)
 have hF := al_at (G := fun b => b < W2.heap.size) y2 y3 y4 y5 y6 y2.lt y3.lt y4.lt y5.lt y6.lt
 have hs1 := show_yes [alF] _ 1 W2 hF (by simp) (hT.of hB) (hS.of hB) alF_may alF_nd alF_nb
 rw [alF_txt, show [alF].length = 1 from rfl, show str alT = { data := #[102, 110, 32, 102, 32, 40, 32, 110, 117, 109, 32, 110, 32, 41, 32, 123, 10, 32, 32, 108, 101, 116, 32, 120, 32, 61, 32, 110, 32, 59, 10, 125, 32, 61, 32, 120, 32, 59, 10] } from rfl] at hs1
 have hs2 : ∀ v1, Below w.heap.size w v1 → Calls Tryz.prog 10 #[.agg #[.slice (some ⟨v1.heap.size, 0, none⟩) 1 1]] (v1.alloc (.cells #[.string ⟨#[]⟩, .slice none 0 0, .slice none 0 0, .bool false, .slice none 0 0] 43)) fun r w' => r = .returned (.tuple #[.string ⟨#[]⟩, .int .i64 2]) ∧ Below (v1.alloc (.cells #[.string ⟨#[]⟩, .slice none 0 0, .slice none 0 0, .bool false, .slice none 0 0] 43)).heap.size (v1.alloc (.cells #[.string ⟨#[]⟩, .slice none 0 0, .slice none 0 0, .bool false, .slice none 0 0] 43)) w' := fun v1 hb => by
  have h := HasS.new #[.string ⟨#[]⟩, .slice none 0 0, .slice none 0 0, .bool false, .slice none 0 0] 43 v1
  have := show_no [alO] _ 1 _ (alO_at (G := fun b => b < (v1.alloc (.cells #[.string ⟨#[]⟩, .slice none 0 0, .slice none 0 0, .bool false, .slice none 0 0] 43)).heap.size) h h.lt) (by simp) ((hT.of hb).alloc _) alO_may
  exact this
 clear x0 x1 y2 y3 y4 y5 y6 hF hB1 hB2 hz1
 subst hW2
 subst hW1
 unfold exC at hs1 hB
 go_enter Tryz.func8, Tryz.ntmps8
 go_wp2_with (first | (go_at_call 10; ((with_reducible refine hs1.mono ?_); clear hs1; (rintro e v1 ⟨rfl, hb1⟩); have hBv := hB.trans (hb1.mono hB.size); have hs3 := hs2 v1 hBv; clear hs2)) | (go_at_call 10; ((with_reducible refine hs3.mono ?_); clear hs3; (rintro e v2 ⟨rfl, hb2⟩))))
 go_ret
 exact ⟨rfl, hBv.trans (((aB (Below.refl _ _) _).trans (hb2.mono (by simp))).mono hBv.size)⟩
end
section
def Ec {α : Type} : Rz α → Prop
 | .er e _ => e = 5 ∨ e = 7 ∨ e = 70
 | .ok _ _ _ => True
theorem Ec.next {α β : Type} {r : Rz α} {f : α → Nat → Nat → Rz β} (h : Ec r) (hf : ∀ x p n, Ec (f x p n)) : Ec (r.next f) := by
 cases r with
 | er e p => exact h
 | ok x p n => exact hf x p n
def Nums (T : List Tk) : Prop := ∀ t ∈ T, t.k = 3 → t.n < 18446744073709551616
end
end Go.Proofs.YtkibkaoffgnmkaaGreatDoor
