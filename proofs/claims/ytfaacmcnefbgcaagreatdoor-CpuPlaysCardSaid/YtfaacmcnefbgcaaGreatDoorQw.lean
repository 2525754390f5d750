/- Contract of what Step defers. -/
import Derived.Test.YtfaacmcnefbgcaaGreatDoorQj
import Derived.WalkLawsBesides
import Derived.Tactics
import Derived.Tactics2
import Derived.Defers
import Derived.Recover
import Derived.Laws.Pointers
import Derived.Test.YtfaacmcnefbgcaaGreatDoorQv
namespace Go.Proofs.YtfaacmcnefbgcaaGreatDoor.m4
open Go.ChangeShapes Go.WideShapes Go.ChangeAt Go.RowKit
set_option linter.unusedVariables false
theorem catch_idle (pe pc : Addr) (w : World) :
    CallsD Tryz.prog 25 #[.pointer (some pe), .pointer (some pc)] .returning w fun e u' w' => e = .returned (.tuple #[]) ∧ u' = .returning ∧ w' = w := by
  refine callsD_of_wpS Tryz.func25 rfl fun c₀ cs hu => ?_
  apply wpS_seq
  apply wpS_region
  simp [wpOpsS, go_sem, recoverD, hu, Tryz.ntmps25, Exit.thenS]
  refine wpS_of_wp ?_
  go_wp2
  cases c₀
  simp_all [bodyPostS, results, Tryz.results25]
set_option maxRecDepth 100000 in
set_option maxHeartbeats 2000000 in
theorem catch_panicking (eb pb cb : Nat) (k y z : Int) (ov : Bool) (older : List PanicEntry) (w : World) (he : w.cell? ⟨eb, 0, none⟩ = some (.int .i64 y)) (hp : w.cell? ⟨pb, 0, none⟩ = some (.pointer (some ⟨cb, 0, none⟩)))
    (h68 : w.cell? ⟨cb, 68, none⟩ = some (.bool ov)) (h70 : w.cell? ⟨cb, 70, none⟩ = some (.int .i64 z)) (fe : w.frozen? ⟨eb, 0, none⟩ = false) (f68 : w.frozen? ⟨cb, 68, none⟩ = false) (f70 : w.frozen? ⟨cb, 70, none⟩ = false) (n1 : eb ≠ pb) (n2 : eb ≠ cb) (n3 : pb ≠ cb) :
    CallsD Tryz.prog 25 #[.pointer (some ⟨eb, 0, none⟩), .pointer (some ⟨pb, 0, none⟩)] (.panicking ({ v := .iface 35 (.int .i64 k), recovered := false } :: older)) w fun e u' w' => e = .returned (.tuple #[]) ∧ u' = .panicking ({ v := .iface 35 (.int .i64 k), recovered := true } :: older) ∧ w' = ((w.setCell ⟨eb, 0, none⟩ (.int .i64 k)).setCell ⟨cb, 68, none⟩ (.bool true)).setCell ⟨cb, 70, none⟩ (.int .i64 k) := by
  have hta : ∀ w : World, (Instr.typeAssert (.iface 35 (.int .i64 k)) 20 35 false).run Tryz.prog w = .ok (.int .i64 k) w := fun _ => by kernel_rfl
  have n1' := n1.symm
  have n2' := n2.symm
  have n3' := n3.symm
  refine callsD_of_wpS Tryz.func25 rfl fun c₀ cs hu => ?_
  apply wpS_seq
  apply wpS_region
  simp [wpOpsS, go_sem, recoverD, hu, Tryz.ntmps25, Exit.thenS]
  refine wpS_of_wp ?_
  go_wp2
  cases c₀
  simp [bodyPostS, results, Tryz.results25, go_sem]
end Go.Proofs.YtfaacmcnefbgcaaGreatDoor.m4

/- Contract of Cpu.Step: for any machine. -/
namespace Go.Proofs.YtfaacmcnefbgcaaGreatDoor.m4
open Go.ChangeShapes Go.WideShapes Go.ChangeAt Go.RowKit
set_option linter.unusedVariables false
theorem own_form {w : World} {base size n : Nat} {e : TypeId} {v : Value} {xs : List Value} (h : w.ownsRow base e size v n xs) : ∃ a c, v = .slice a n c := by
  rcases h.2 with ⟨hv, hn⟩ | ⟨g, cap, cur, hv, _⟩
  · exact ⟨none, 0, by rw [hv, hn]⟩
  · exact ⟨_, _, hv⟩
set_option maxRecDepth 100000 in
theorem callF (k : Nat) (h : 1 ≤ k ∧ k ≤ 34) : ∀ (args : Array Value) (w : World), (callFunc (tgN k) args).run Tryz.prog w = .ok (.enter (tgN k) args) w := by
  have hc : k = 1 ∨ k = 2 ∨ k = 3 ∨ k = 4 ∨ k = 5 ∨ k = 6 ∨ k = 7 ∨ k = 8 ∨ k = 9 ∨ k = 10 ∨ k = 11 ∨ k = 12 ∨ k = 13 ∨ k = 14 ∨ k = 15 ∨ k = 16 ∨ k = 17 ∨ k = 18 ∨ k = 19 ∨ k = 20 ∨ k = 21 ∨ k = 22 ∨ k = 23 ∨ k = 24 ∨ k = 25 ∨ k = 26 ∨ k = 27 ∨ k = 28 ∨ k = 29 ∨ k = 30 ∨ k = 31 ∨ k = 32 ∨ k = 33 ∨ k = 34 := by omega
  rcases hc with rfl | rfl | rfl | rfl | rfl | rfl | rfl | rfl | rfl | rfl | rfl | rfl | rfl | rfl | rfl | rfl | rfl | rfl | rfl | rfl | rfl | rfl | rfl | rfl | rfl | rfl | rfl | rfl | rfl | rfl | rfl | rfl | rfl | rfl <;> exact fun _ _ => by kernel_rfl
/-- What a step leaves. -/
def StP (w : World) (M : Mc) (r : Int × Ms) (e : Ending) (w' : World) : Prop := ∃ M', Mc.nxt w M M' ∧ e = .returned (.int .i64 r.1) ∧ IsC w' M' r.2 ∧ Only M.own w w'
theorem StP.same {w w' : World} {M : Mc} {s : Ms} {k : Int} {e : Ending} (h : IsC w M s) (he : e = .returned (.int .i64 k)) (hb : Below w.heap.size w w') : StP w M (k, s) e w' := ⟨M, Mc.nxt_refl _ _, he, h.of hb, only_below hb⟩
theorem two_new (w : World) (p : Addr) (k : Int) : Below w.heap.size w ((w.alloc (.cells #[.pointer (some p)] 29)).alloc (.cells #[.int .i64 k] 35)) ∧ ((w.alloc (.cells #[.pointer (some p)] 29)).alloc (.cells #[.int .i64 k] 35)).cell? ⟨w.heap.size + 1, 0, none⟩ = some (.int .i64 k) ∧ ((w.alloc (.cells #[.pointer (some p)] 29)).alloc (.cells #[.int .i64 k] 35)).cell? ⟨w.heap.size, 0, none⟩ = some (.pointer (some p)) ∧ (∀ o, ((w.alloc (.cells #[.pointer (some p)] 29)).alloc (.cells #[.int .i64 k] 35)).frozen? ⟨w.heap.size + 1, o, none⟩ = false) ∧ ((w.alloc (.cells #[.pointer (some p)] 29)).alloc (.cells #[.int .i64 k] 35)).heap.size = w.heap.size + 2 := by
  have hs : w.heap.size + 1 = (w.alloc (.cells #[.pointer (some p)] 29)).heap.size := by rw [World.size_alloc]
  refine ⟨(aBelow (Below.refl _ _) _).trans ((aBelow (Below.refl _ _) _).mono (by omega)), ?_, ?_, fun o => ?_, by rw [World.size_alloc, World.size_alloc]⟩
  · rw [hs]; exact nwc _ _ _ _
  · exact stay (aBelow (Below.refl _ _) _) (nwc _ _ _ _)
  · rw [hs]; exact nwf _ _ _ _
theorem step_over {w : World} {M : Mc} {s : Ms} (h : IsC w M s) (ho : s.ov = true) : Calls Tryz.prog 8 #[.pointer (some ⟨M.cb, 0, none⟩)] w (StP w M (50, s)) := by
  have c68 := h.c68
  rw [ho] at c68
  have hl := h.lt
  obtain ⟨hB, _⟩ := two_new w ⟨M.cb, 0, none⟩ 50
  go_enter_defers Tryz.func8, Tryz.ntmps8
  go_wp2
  refine (show Leaves _ _ _ _ [] .returning _ from ⟨.int .i64 50, ?_, StP.same h rfl hB⟩)
  simp [results, Tryz.results8, go_sem]
theorem step_full {w : World} {M : Mc} {s : Ms} (h : IsC w M s) (ho : s.ov = false) (hn : s.tr.length = 1048576) : Calls Tryz.prog 8 #[.pointer (some ⟨M.cb, 0, none⟩)] w (StP w M (4, s)) := by
  have c68 := h.c68
  rw [ho] at c68
  have hl := h.lt
  have c67 := h.c67
  obtain ⟨a, c, hv⟩ := own_form h.rowR
  rw [hv, hn] at c67
  clear hn hv
  obtain ⟨hB, _⟩ := two_new w ⟨M.cb, 0, none⟩ 4
  go_enter_defers Tryz.func8, Tryz.ntmps8
  go_wp2
  refine (show Leaves _ _ _ _ [] .returning _ from ⟨.int .i64 4, ?_, StP.same h rfl hB⟩)
  simp [results, Tryz.results8, go_sem]
/-- What the door of a step that goes wrong asks. -/
theorem catch_step {w w' : World} {M : Mc} {s : Ms} {k : Int} {S : Nat → Prop} (h : IsC w M s) (h' : IsC w' M s) (hO : Only S ((w.alloc (.cells #[.pointer (some ⟨M.cb, 0, none⟩)] 29)).alloc (.cells #[.int .i64 0] 35)) w') (hS : ∀ j, S j → M.own j ∨ w.heap.size + 2 ≤ j) (tmps : Array Value) (ht : tmps[2]? = some (.pointer (some ⟨w.heap.size + 1, 0, none⟩))) :
    Leaves Tryz.prog Tryz.f8 tmps (StP w M (k, s.bad k)) [{ target := Target.fn (Fn.func 25) #[.pointer (some ⟨w.heap.size + 1, 0, none⟩), .pointer (some ⟨w.heap.size, 0, none⟩)], args := #[] }] (.panicking [{ v := .iface 35 (.int .i64 k), recovered := false }]) w' := by
  have hl := h.lt
  obtain ⟨hB, e0, p0, fe, hsz⟩ := two_new w ⟨M.cb, 0, none⟩ 0
  have nn : ∀ j, j = w.heap.size ∨ j = w.heap.size + 1 → ¬ S j := fun j hj hs => by
    rcases hS j hs with h1 | h1
    · have := h.all_lt (.inl h1); omega
    · omega
  have e1 := hO.cell (a := ⟨w.heap.size + 1, 0, none⟩) (nn _ (.inr rfl)) e0
  have p1 := hO.cell (a := ⟨w.heap.size, 0, none⟩) (nn _ (.inl rfl)) p0
  have f1 : w'.frozen? ⟨w.heap.size + 1, 0, none⟩ = false := (hO.frozen (by simp only; omega) (nn _ (.inr rfl))).trans (fe 0)
  refine leaves_cons (f := 25) (args := #[.pointer (some ⟨w.heap.size + 1, 0, none⟩), .pointer (some ⟨w.heap.size, 0, none⟩)]) (by simp) (by simp [go_sem]) ?_
  refine (catch_panicking (w.heap.size + 1) w.heap.size M.cb k 0 s.wr s.ov [] w' e1 p1 h'.c68 h'.c70 f1 (h'.fz 68) (h'.fz 70) (by omega) (by omega) (by omega)).mono ?_
  rintro e u' w'' ⟨rfl, rfl, rfl⟩
  have O1 := only_one w' (w.heap.size + 1) 0 (.int .i64 k)
  have hne : ∀ j, M.all j → ¬ j = w.heap.size + 1 := fun j hj e => by have := h.all_lt hj; omega
  have hC := (h'.only O1 hne).setOv.setWr k
  have hE : StP w M (k, s.bad k) (.returned (.int .i64 k)) (((w'.setCell ⟨w.heap.size + 1, 0, none⟩ (.int .i64 k)).setCell ⟨M.cb, 68, none⟩ (.bool true)).setCell ⟨M.cb, 70, none⟩ (.int .i64 k)) := by
    refine ⟨M, Mc.nxt_refl _ _, rfl, hC, ?_⟩
    refine Only.setCell (Only.setCell (?_ : Only M.own w (w'.setCell ⟨w.heap.size + 1, 0, none⟩ (.int .i64 k))) (.inl rfl)) (.inl rfl)
    have a1 : Only (fun j => S j ∨ w.heap.size + 1 = j) w (w'.setCell ⟨w.heap.size + 1, 0, none⟩ (.int .i64 k)) := ((only_below hB).trans (hO.mono fun j hj => .inl hj)).setCell (.inr rfl)
    exact ⟨a1.os, a1.tape, a1.output, a1.size, fun j hj hn => a1.block j hj (fun hh => by
      rcases hh with hh | hh
      · rcases hS j hh with h1 | h1
        · exact hn h1
        · omega
      · omega)⟩
  have cE : (((w'.setCell ⟨w.heap.size + 1, 0, none⟩ (.int .i64 k)).setCell ⟨M.cb, 68, none⟩ (.bool true)).setCell ⟨M.cb, 70, none⟩ (.int .i64 k)).cell? ⟨w.heap.size + 1, 0, none⟩ = some (.int .i64 k) := by
    rw [World.cell?_setCell_other (h := by intro e; injection e with e _ _; omega), World.cell?_setCell_other (h := by intro e; injection e with e _ _; omega)]
    exact cset_same _ e1
  refine (show Leaves _ _ _ _ [] .returning _ from ⟨.int .i64 k, ?_, hE⟩)
  simp [results, Tryz.results8, go_sem, Array.getD_eq_getD_getElem?, ht, cE]
set_option maxRecDepth 100000 in
set_option maxHeartbeats 2000000 in
theorem step_wrong {w : World} {M : Mc} {s : Ms} (h : IsC w M s) (ho : s.ov = false) (hn : s.tr.length ≠ 1048576) (k : Int)
    (hb : ∀ w', IsC w' M s → Below w.heap.size w w' → Calls Tryz.prog 26 #[.pointer (some ⟨M.cb, 0, none⟩)] w' fun e w'' => e = .panicked [{ v := .iface 35 (.int .i64 k), recovered := false }] ∧ Below w'.heap.size w' w'') : Calls Tryz.prog 8 #[.pointer (some ⟨M.cb, 0, none⟩)] w (StP w M (k, s.bad k)) := by
  have c68 := h.c68
  rw [ho] at c68
  have hl := h.lt
  have c67 := h.c67
  have hn1 := h.ok.n
  obtain ⟨a, c, hv⟩ := own_form h.rowR
  obtain ⟨N, hN⟩ : ∃ N, s.tr.length = N := ⟨_, rfl⟩
  rw [hN] at hn hn1 hv
  rw [hv] at c67
  clear hv
  have hn' : ¬ ((N : Nat) : Int) = 1048576 := by omega
  obtain ⟨hB, _, _, _, hsz⟩ := two_new w ⟨M.cb, 0, none⟩ 0
  have h1 := h.of hB
  have hBg := hb _ h1 hB
  have hmf : ∀ (fn : Fn) (first cap : Array Value) (w : World), (Instr.makeFunc fn first cap).run Tryz.prog w = .ok (.func fn first cap) w := fun _ _ _ _ => rfl
  clear hn hN hB
  go_enter_defers Tryz.func8, Tryz.ntmps8
  go_wp2_with (go_at_call 26; (with_reducible refine hBg.mono ?_); (rintro e w2 ⟨rfl, hb2⟩))
  exact catch_step h (h1.of hb2) (only_below (S := fun _ => False) hb2) (fun j hj => hj.elim) _ rfl
set_option maxRecDepth 100000 in
set_option maxHeartbeats 4000000 in
theorem step_bad {w : World} {M : Mc} {s : Ms} (h : IsC w M s) (ho : s.ov = false) (hn : s.tr.length ≠ 1048576) (hk : s.tk) {x : In} (hx : (1 ≤ x.op ∧ x.op ≤ 34) ∧ x.rd < 32 ∧ x.rs1 < 32 ∧ x.rs2 < 32) (he : (exF M.x.l s x).e ≠ 0)
    (hb : ∀ w', IsC w' M s → Below w.heap.size w w' → Calls Tryz.prog 26 #[.pointer (some ⟨M.cb, 0, none⟩)] w' (BgP w' M s x)) : Calls Tryz.prog 8 #[.pointer (some ⟨M.cb, 0, none⟩)] w (StP w M ((exF M.x.l s x).e, s.bad (exF M.x.l s x).e)) := by
  have c68 := h.c68
  rw [ho] at c68
  have hl := h.lt
  have c67 := h.c67
  have hn1 := h.ok.n
  obtain ⟨a, c, hv⟩ := own_form h.rowR
  obtain ⟨N, hN⟩ : ∃ N, s.tr.length = N := ⟨_, rfl⟩
  have hk1 : s.told.length ≤ 1048576 := Nat.le_trans hk h.ok.n
  rw [hN] at hn hn1 hv
  rw [hv] at c67
  clear hv
  have hn' : ¬ ((N : Nat) : Int) = 1048576 := by omega
  obtain ⟨hB, _, _, _, hsz⟩ := two_new w ⟨M.cb, 0, none⟩ 0
  have h1 := h.of hB
  have hBg := hb _ h1 hB
  have hmf : ∀ (fn : Fn) (first cap : Array Value) (w : World), (Instr.makeFunc fn first cap).run Tryz.prog w = .ok (.func fn first cap) w := fun _ _ _ _ => rfl
  have hall : ∀ j, M.all j → j < w.heap.size := fun j hj => h.all_lt hj
  clear hn hN hB
  have hD := fun w => does_any5 x.op hx.1 w
  have hcf := callF x.op hx.1
  have hMt : ∀ w2 sb, IsS w2 sb M.cb x (s.rv x.rs1) (s.rt x.rs1) (s.rv x.rs2) (s.rt x.rs2) s.sn s.nx → ((w.alloc (.cells #[.pointer (some ⟨M.cb, 0, none⟩)] 29)).alloc (.cells #[.int .i64 0] 35)).heap.size ≤ sb → Below ((w.alloc (.cells #[.pointer (some ⟨M.cb, 0, none⟩)] 29)).alloc (.cells #[.int .i64 0] 35)).heap.size ((w.alloc (.cells #[.pointer (some ⟨M.cb, 0, none⟩)] 29)).alloc (.cells #[.int .i64 0] 35)) w2 →
      Calls Tryz.prog (tgN x.op) #[.pointer (some ⟨sb, 0, none⟩)] w2 fun e w' => e = .panicked [{ v := .iface 35 (.int .i64 (exF M.x.l s x).e), recovered := false }] ∧ IsC w' M s ∧ Only (fun j => M.own j ∨ j = sb) w2 w' := fun w2 sb hS hsb hb2 =>
    (mt_any ⟨h1.of hb2, hS, fun e => by have := hall sb e; omega⟩ hk1 hx.2.1 hx.1).mono fun e w' hh => hh.2 he
  generalize (exF M.x.l s x).e = k at *
  go_enter_defers Tryz.func8, Tryz.ntmps8
  go_wp2_with (first | (go_at_call 26; (with_reducible refine hBg.mono ?_); (rintro e w2 ⟨sb, rfl, hsb, hS, hb2⟩); have d1 := hS.d1; have hMt2 := hMt _ _ hS hsb hb2) | (go_at_call 27; (with_reducible refine (hD _).mono ?_); (rintro e w3 ⟨rfl, rfl⟩)) | ((with_reducible refine hMt2.mono ?_); (rintro e w4 ⟨rfl, hc4, ho4⟩)))
  refine catch_step h hc4 (((only_below (S := fun _ => False) hb2).mono fun _ h => h.elim).trans ho4) (fun j hj => hj.imp id fun e => by omega) _ rfl
end Go.Proofs.YtfaacmcnefbgcaaGreatDoor.m4

/- Contract of Cpu.Step: for any machine. -/
namespace Go.Proofs.YtfaacmcnefbgcaaGreatDoor.m4
open Go.ChangeShapes Go.WideShapes Go.ChangeAt Go.RowKit
set_option linter.unusedVariables false
theorem set_comm (w : World) (b o1 o2 : Nat) (v1 v2 : Value) (h : o1 ≠ o2) : (w.setCell ⟨b, o1, none⟩ v1).setCell ⟨b, o2, none⟩ v2 = (w.setCell ⟨b, o2, none⟩ v2).setCell ⟨b, o1, none⟩ v1 := by
  unfold World.setCell
  have key : ∀ hp : Array Obj, (hp.modify b fun | .cells c elem frozen => .cells (c.setIfInBounds o1 v1) elem frozen | o => o).modify b (fun | .cells c elem frozen => .cells (c.setIfInBounds o2 v2) elem frozen | o => o) = (hp.modify b fun | .cells c elem frozen => .cells (c.setIfInBounds o2 v2) elem frozen | o => o).modify b (fun | .cells c elem frozen => .cells (c.setIfInBounds o1 v1) elem frozen | o => o) := by
    intro hp
    apply Array.ext
    · simp
    · intro i h1 h2
      simp only [Array.getElem_modify]
      split
      · cases hp[i]'(by simpa using h1) <;> simp only [Array.setIfInBounds_comm _ _ h]
      · rfl
  simp only [Option.isSome_none, Bool.false_eq_true, if_false]
  exact congrArg (fun hp => ({ w with heap := hp } : World)) (key w.heap)
/-- What the machine has when its Op is done, and Step goes on. -/
structure Dn (w w4 : World) (M M' : Mc) (s r : Ms) (n : Sn) (sb : Nat) : Prop where
  c : IsC w4 M' (r.go s.pc)
  d10 : w4.cell? ⟨sb, 10, none⟩ = some (.int .u64 (n.pc : Nat))
  d11 : w4.cell? ⟨sb, 11, none⟩ = some (.int .u8 (n.k : Nat))
  d12 : w4.cell? ⟨sb, 12, none⟩ = some (.int .u64 (n.a : Nat))
  d13 : w4.cell? ⟨sb, 13, none⟩ = some (.int .u64 (n.b : Nat))
  d14 : w4.cell? ⟨sb, 14, none⟩ = some (.bool n.t)
  d15 : w4.cell? ⟨sb, 15, none⟩ = some (.int .u64 (r.pc : Nat))
  p : w4.cell? ⟨w.heap.size, 0, none⟩ = some (.pointer (some ⟨M.cb, 0, none⟩))
  e : w4.cell? ⟨w.heap.size + 1, 0, none⟩ = some (.int .i64 0)
  f : ∀ o, w4.frozen? ⟨w.heap.size + 1, o, none⟩ = false
  nx : Mc.nxt w M M'
  o : Only (fun j => M.own j ∨ w.heap.size ≤ j) w w4
  ns : ¬ M'.all sb
  n0 : ¬ M'.all w.heap.size
  n1 : ¬ M'.all (w.heap.size + 1)
  tr : r.tr = s.tr
  sz : w.heap.size + 2 ≤ w4.heap.size
set_option maxRecDepth 100000 in
set_option maxHeartbeats 4000000 in
theorem step_good {w : World} {M : Mc} {s : Ms} (h : IsC w M s) (ho : s.ov = false) (hn : s.tr.length ≠ 1048576) {x : In} (hx : (1 ≤ x.op ∧ x.op ≤ 34) ∧ x.rd < 32 ∧ x.rs1 < 32 ∧ x.rs2 < 32) (r : Ms) (n : Sn) (hrn : r.pc < 18446744073709551616)
    (hb : ∀ w', IsC w' M s → Below w.heap.size w w' → Calls Tryz.prog 26 #[.pointer (some ⟨M.cb, 0, none⟩)] w' (BgP w' M s x))
    (hm : ∀ w2 sb, IsS w2 sb M.cb x (s.rv x.rs1) (s.rt x.rs1) (s.rv x.rs2) (s.rt x.rs2) s.sn s.nx → w.heap.size + 2 ≤ sb → Below (w.heap.size + 2) ((w.alloc (.cells #[.pointer (some ⟨M.cb, 0, none⟩)] 29)).alloc (.cells #[.int .i64 0] 35)) w2 → Calls Tryz.prog (tgN x.op) #[.pointer (some ⟨sb, 0, none⟩)] w2 fun e w' => e = .returned (.tuple #[]) ∧ ∃ M', Dn w w' M M' s r n sb) :
    Calls Tryz.prog 8 #[.pointer (some ⟨M.cb, 0, none⟩)] w (StP w M (0, r.seen n)) := by
  have c68 := h.c68
  rw [ho] at c68
  have hl := h.lt
  have c67 := h.c67
  have hn1 := h.ok.n
  obtain ⟨a, c, hv⟩ := own_form h.rowR
  obtain ⟨N, hN⟩ : ∃ N, s.tr.length = N := ⟨_, rfl⟩
  rw [hN] at hn hn1 hv
  rw [hv] at c67
  clear hv
  have hn' : ¬ ((N : Nat) : Int) = 1048576 := by omega
  obtain ⟨hB, _, _, _, hsz⟩ := two_new w ⟨M.cb, 0, none⟩ 0
  have h1 := h.of hB
  have hBg := hb _ h1 hB
  have hmf : ∀ (fn : Fn) (first cap : Array Value) (w : World), (Instr.makeFunc fn first cap).run Tryz.prog w = .ok (.func fn first cap) w := fun _ _ _ _ => rfl
  obtain ⟨iT, hiT, zT0, zT1, zT2⟩ := info_parts infoSn
  have hD := fun w => does_any5 x.op hx.1 w
  have hcf := callF x.op hx.1
  go_enter_defers Tryz.func8, Tryz.ntmps8
  go_wp2_with (first | (go_at_call 26; (with_reducible refine hBg.mono ?_); (rintro e w2 ⟨sb, rfl, hsb, hS, hb2⟩); have d1 := hS.d1; rw [hsz] at hsb hb2; have hMt2 := hm _ _ hS hsb hb2) | (go_at_call 27; (with_reducible refine (hD _).mono ?_); (rintro e w3 ⟨rfl, rfl⟩)) | ((with_reducible refine hMt2.mono ?_); (rintro e w4 ⟨rfl, M', hDn⟩)))
  clear hMt2 hBg hm hb hcf hD hmf d1 hS hb2 h1 c67 c68 hB
  obtain ⟨hcb, hxx, hnx⟩ := hDn.nx
  have q0 := hDn.p
  have q10 := hDn.d10
  have q11 := hDn.d11
  have q12 := hDn.d12
  have q13 := hDn.d13
  have q14 := hDn.d14
  have q15 := hDn.d15
  have q65 := hDn.c.c65
  have q67 := hDn.c.c67
  have f65 := hDn.c.fz 65
  have f67 := hDn.c.fz 67
  rw [hcb] at q65 q67 f65 f67
  have hBW : Below w4.heap.size w4 (w4.alloc (.cells #[.int .u64 (n.pc : Nat), .int .u8 (n.k : Nat), .int .u64 (n.a : Nat), .int .u64 (n.b : Nat), .bool n.t] 82)).drew := bd1 (aBelow (Below.refl _ _) _)
  have owT := own_of hDn.c.rowR hBW
  have nT := news2 w4 #[.int .u64 (n.pc : Nat), .int .u8 (n.k : Nat), .int .u64 (n.a : Nat), .int .u64 (n.b : Nat), .bool n.t] 82
  have hrt : (r.go s.pc).tr.length = N := by show r.tr.length = N; rw [hDn.tr]; exact hN
  rw [hrt] at owT
  obtain ⟨F, hFd⟩ : ∃ F : World → Prop, F = fun w' : World => (w'.cell? ⟨w.heap.size, 0, none⟩ = some (.pointer (some ⟨M.cb, 0, none⟩)) ∧ w'.cell? ⟨sb, 10, none⟩ = some (.int .u64 (n.pc : Nat)) ∧ w'.cell? ⟨sb, 11, none⟩ = some (.int .u8 (n.k : Nat)) ∧ w'.cell? ⟨sb, 12, none⟩ = some (.int .u64 (n.a : Nat)) ∧ w'.cell? ⟨sb, 13, none⟩ = some (.int .u64 (n.b : Nat)) ∧ w'.cell? ⟨sb, 14, none⟩ = some (.bool n.t) ∧ w'.cell? ⟨sb, 15, none⟩ = some (.int .u64 (r.pc : Nat)) ∧ w'.cell? ⟨M.cb, 67, none⟩ = some M'.vr) := ⟨_, rfl⟩
  have hFi : ∀ w', F w' ↔ (w'.cell? ⟨w.heap.size, 0, none⟩ = some (.pointer (some ⟨M.cb, 0, none⟩)) ∧ w'.cell? ⟨sb, 10, none⟩ = some (.int .u64 (n.pc : Nat)) ∧ w'.cell? ⟨sb, 11, none⟩ = some (.int .u8 (n.k : Nat)) ∧ w'.cell? ⟨sb, 12, none⟩ = some (.int .u64 (n.a : Nat)) ∧ w'.cell? ⟨sb, 13, none⟩ = some (.int .u64 (n.b : Nat)) ∧ w'.cell? ⟨sb, 14, none⟩ = some (.bool n.t) ∧ w'.cell? ⟨sb, 15, none⟩ = some (.int .u64 (r.pc : Nat)) ∧ w'.cell? ⟨M.cb, 67, none⟩ = some M'.vr) := fun w' => by rw [hFd]
  clear hFd
  have hF0 : F w4.drew := (hFi _).2 ⟨q0, q10, q11, q12, q13, q14, q15, q67⟩
  have hF1 : F (w4.alloc (.cells #[.int .u64 (n.pc : Nat), .int .u8 (n.k : Nat), .int .u64 (n.a : Nat), .int .u64 (n.b : Nat), .bool n.t] 82)).drew := (hFi _).2 ⟨stay hBW q0, stay hBW q10, stay hBW q11, stay hBW q12, stay hBW q13, stay hBW q14, stay hBW q15, stay hBW q67⟩
  have rowlt : ∀ j, M'.vr.ownBlock = some j → M'.all j := fun j hj => .inl (.inr (.inr (.inr hj)))
  have ncb : ¬ some M.cb = M'.vr.ownBlock := fun e => by rw [← hcb] at e; exact (hDn.c.n3 _ e.symm).1 rfl
  have nsb : ¬ some sb = M'.vr.ownBlock := fun e => hDn.ns (rowlt _ e.symm)
  have nh : ¬ some w.heap.size = M'.vr.ownBlock := fun e => hDn.n0 (rowlt _ e.symm)
  have nh1 : ¬ some (w.heap.size + 1) = M'.vr.ownBlock := fun e => hDn.n1 (rowlt _ e.symm)
  refine region_FN F 21 (by kernel_rfl) ?_
  refine wpAnyF_take (i := 0) rfl (by kernel_rfl) (by kernel_rfl) (by kernel_rfl) (by kernel_rfl) (by kernel_rfl) (onlyN_panic _) hF0 (fun K hK => ?_)
  apply Exists.intro
  refine ⟨Or.inl ⟨by kernel_rfl, fun w' hf => ?_⟩, ?_⟩
  · obtain ⟨s0, s10, s11, s12, s13, s14, s15, s67⟩ := (hFi _).1 hf
    go_simp
    try exact rfl
  go_simp
  refine hK _ ?_
  clear hK K
  refine wpAnyF_take (i := 1) rfl (by kernel_rfl) (by kernel_rfl) (by kernel_rfl) (by kernel_rfl) (by kernel_rfl) (onlyN_panic _) hF0 (fun K hK => ?_)
  apply Exists.intro
  refine ⟨Or.inl ⟨by kernel_rfl, fun w' hf => ?_⟩, ?_⟩
  · obtain ⟨s0, s10, s11, s12, s13, s14, s15, s67⟩ := (hFi _).1 hf
    go_simp
    try exact rfl
  go_simp
  refine hK _ ?_
  clear hK K
  refine wpAnyF_take (i := 2) rfl (by kernel_rfl) (by kernel_rfl) (by kernel_rfl) (by kernel_rfl) (by kernel_rfl) (onlyN_panic _) hF0 (fun K hK => ?_)
  apply Exists.intro
  refine ⟨Or.inl ⟨by kernel_rfl, fun w' hf => ?_⟩, ?_⟩
  · obtain ⟨s0, s10, s11, s12, s13, s14, s15, s67⟩ := (hFi _).1 hf
    go_simp
    try exact rfl
  go_simp
  refine hK _ ?_
  clear hK K
  refine wpAnyF_take (i := 3) rfl (by kernel_rfl) (by kernel_rfl) (by kernel_rfl) (by kernel_rfl) (by kernel_rfl) (onlyN_panic _) hF0 (fun K hK => ?_)
  apply Exists.intro
  refine ⟨Or.inl ⟨by kernel_rfl, fun w' hf => ?_⟩, ?_⟩
  · obtain ⟨s0, s10, s11, s12, s13, s14, s15, s67⟩ := (hFi _).1 hf
    go_simp
    try exact rfl
  go_simp
  refine hK _ ?_
  clear hK K
  refine wpAnyF_take (i := 4) rfl (by kernel_rfl) (by kernel_rfl) (by kernel_rfl) (by kernel_rfl) (by kernel_rfl) (onlyN_panic _) hF0 (fun K hK => ?_)
  apply Exists.intro
  refine ⟨Or.inl ⟨by kernel_rfl, fun w' hf => ?_⟩, ?_⟩
  · obtain ⟨s0, s10, s11, s12, s13, s14, s15, s67⟩ := (hFi _).1 hf
    go_simp
    try exact rfl
  go_simp
  refine hK _ ?_
  clear hK K
  refine wpAnyF_take (i := 5) rfl (by kernel_rfl) (by kernel_rfl) (by kernel_rfl) (by kernel_rfl) (by kernel_rfl) (onlyN_panic _) hF0 (fun K hK => ?_)
  apply Exists.intro
  refine ⟨Or.inl ⟨by kernel_rfl, fun w' hf => ?_⟩, ?_⟩
  · obtain ⟨s0, s10, s11, s12, s13, s14, s15, s67⟩ := (hFi _).1 hf
    go_simp
    try exact rfl
  go_simp
  refine hK _ ?_
  clear hK K
  refine wpAnyF_take (i := 6) rfl (by kernel_rfl) (by kernel_rfl) (by kernel_rfl) (by kernel_rfl) (by kernel_rfl) (onlyN_panic _) hF0 (fun K hK => ?_)
  apply Exists.intro
  refine ⟨Or.inl ⟨by kernel_rfl, fun w' hf => ?_⟩, ?_⟩
  · obtain ⟨s0, s10, s11, s12, s13, s14, s15, s67⟩ := (hFi _).1 hf
    go_simp
    try exact rfl
  go_simp
  refine hK _ ?_
  clear hK K
  refine wpAnyF_take (i := 7) rfl (by kernel_rfl) (by kernel_rfl) (by kernel_rfl) (by kernel_rfl) (by kernel_rfl) (onlyN_panic _) hF0 (fun K hK => ?_)
  apply Exists.intro
  refine ⟨Or.inl ⟨by kernel_rfl, fun w' hf => ?_⟩, ?_⟩
  · obtain ⟨s0, s10, s11, s12, s13, s14, s15, s67⟩ := (hFi _).1 hf
    go_simp
    try exact rfl
  go_simp
  refine hK _ ?_
  clear hK K
  refine wpAnyF_take (i := 8) rfl (by kernel_rfl) (by kernel_rfl) (by kernel_rfl) (by kernel_rfl) (by kernel_rfl) (onlyN_panic _) hF0 (fun K hK => ?_)
  apply Exists.intro
  refine ⟨Or.inl ⟨by kernel_rfl, fun w' hf => ?_⟩, ?_⟩
  · obtain ⟨s0, s10, s11, s12, s13, s14, s15, s67⟩ := (hFi _).1 hf
    go_simp
    try exact rfl
  go_simp
  refine hK _ ?_
  clear hK K
  refine wpAnyF_take (i := 9) rfl (by kernel_rfl) (by kernel_rfl) (by kernel_rfl) (by kernel_rfl) (by kernel_rfl) (onlyN_panic _) hF0 (fun K hK => ?_)
  apply Exists.intro
  refine ⟨Or.inl ⟨by kernel_rfl, fun w' hf => ?_⟩, ?_⟩
  · obtain ⟨s0, s10, s11, s12, s13, s14, s15, s67⟩ := (hFi _).1 hf
    go_simp
    try exact rfl
  go_simp
  refine hK _ ?_
  clear hK K
  refine wpAnyF_take (i := 10) rfl (by kernel_rfl) (by kernel_rfl) (by kernel_rfl) (by kernel_rfl) (by kernel_rfl) (onlyN_panic _) hF0 (fun K hK => ?_)
  apply Exists.intro
  refine ⟨Or.inl ⟨by kernel_rfl, fun w' hf => ?_⟩, ?_⟩
  · obtain ⟨s0, s10, s11, s12, s13, s14, s15, s67⟩ := (hFi _).1 hf
    go_simp
    try exact rfl
  go_simp
  refine hK _ ?_
  clear hK K
  refine wpAnyF_take (i := 11) rfl (by kernel_rfl) (by kernel_rfl) (by kernel_rfl) (by kernel_rfl) (by kernel_rfl) (onlyN_panic _) hF0 (fun K hK => ?_)
  apply Exists.intro
  refine ⟨Or.inl ⟨by kernel_rfl, fun w' hf => ?_⟩, ?_⟩
  · obtain ⟨s0, s10, s11, s12, s13, s14, s15, s67⟩ := (hFi _).1 hf
    go_simp
    try exact rfl
  go_simp
  refine hK _ ?_
  clear hK K
  refine wpAnyF_take (i := 12) rfl (by kernel_rfl) (by kernel_rfl) (by kernel_rfl) (by kernel_rfl) (by kernel_rfl) (onlyN_panic _) hF0 (fun K hK => ?_)
  apply Exists.intro
  refine ⟨Or.inl ⟨by kernel_rfl, fun w' hf => ?_⟩, ?_⟩
  · obtain ⟨s0, s10, s11, s12, s13, s14, s15, s67⟩ := (hFi _).1 hf
    go_simp
    try exact rfl
  go_simp
  refine hK _ ?_
  clear hK K
  refine wpAnyF_take (i := 13) rfl (by kernel_rfl) (by kernel_rfl) (by kernel_rfl) (by kernel_rfl) (by kernel_rfl) (onlyN_panic _) hF0 (fun K hK => ?_)
  apply Exists.intro
  refine ⟨Or.inl ⟨by kernel_rfl, fun w' hf => ?_⟩, ?_⟩
  · obtain ⟨s0, s10, s11, s12, s13, s14, s15, s67⟩ := (hFi _).1 hf
    go_simp
    try exact rfl
  go_simp
  refine hK _ ?_
  clear hK K
  refine wpAnyF_one (k := 14) (by kernel_rfl) ?_
  refine wpOp_step rfl (fun K hK => ?_)
  go_simp
  refine hK _ _ ⟨fun _ => hF1, ?_⟩
  clear hK K
  refine wpAnyF_one (k := 15) (by kernel_rfl) ?_
  refine wpOp_step rfl (fun K hK => ?_)
  refine step_append_lies _ rfl (.tmp 36) (.tmp 41) 43 rfl 0 82 iT _ 5 40 Tryz.underlying43 hiT zT0 zT1 zT2 rfl (by decide) M'.vr N (snL s.tr) rfl (by rw [← hDn.tr]; exact owT) ⟨w4.heap.size, 0, none⟩ 1 1 [.int .u64 (n.pc : Nat), .int .u8 (n.k : Nat), .int .u64 (n.a : Nat), .int .u64 (n.b : Nat), .bool n.t] rfl rfl nT (by intro u hu; simp at hu; rcases hu with rfl | rfl | rfl | rfl | rfl <;> rfl) (by decide) (by unfold maxLen; omega) (by omega) (Nat.zero_le _) _ rfl ?_
  intro g cap w5 hown5 hgrow hat hlt5
  have O5 := only_grown hgrow
  have hA : Below w4.heap.size w4 (w4.alloc (.cells #[.int .u64 (n.pc : Nat), .int .u8 (n.k : Nat), .int .u64 (n.a : Nat), .int .u64 (n.b : Nat), .bool n.t] 82)).drew := hBW
  have g0 := O5.cell (a := ⟨w.heap.size, 0, none⟩) nh (stay hA q0)
  have g65 := O5.cell (a := ⟨M.cb, 65, none⟩) ncb (stay hA q65)
  have g67 := O5.cell (a := ⟨M.cb, 67, none⟩) ncb (stay hA q67)
  have e5 := O5.cell (a := ⟨w.heap.size + 1, 0, none⟩) nh1 (stay hA hDn.e)
  have hF5 : F w5 := (hFi _).2 ⟨g0, O5.cell (a := ⟨sb, 10, none⟩) nsb (stay hA q10), O5.cell (a := ⟨sb, 11, none⟩) nsb (stay hA q11), O5.cell (a := ⟨sb, 12, none⟩) nsb (stay hA q12), O5.cell (a := ⟨sb, 13, none⟩) nsb (stay hA q13), O5.cell (a := ⟨sb, 14, none⟩) nsb (stay hA q14), O5.cell (a := ⟨sb, 15, none⟩) nsb (stay hA q15), g67⟩
  have hF6 : F (w5.setCell ⟨M.cb, 65, none⟩ (.int .u64 (r.pc : Nat))) := (hFi _).2 (by have O6 := only_one w5 M.cb 65 (.int .u64 (r.pc : Nat)); have n1 : ¬ w.heap.size = M.cb := (by omega); have n2 : ¬ sb = M.cb := (by omega); obtain ⟨k0, k1, k2, k3, k4, k5, k6, k7⟩ := (hFi _).1 hF5; exact ⟨O6.cell n1 k0, O6.cell n2 k1, O6.cell n2 k2, O6.cell n2 k3, O6.cell n2 k4, O6.cell n2 k5, O6.cell n2 k6, cset _ g65 (by omega) k7⟩)
  have z65 : w5.frozen? ⟨M.cb, 65, none⟩ = false := by rw [hgrow.frozen_far ⟨M.cb, 65, none⟩ (Nat.lt_of_lt_of_le (by rw [← hcb]; exact hDn.c.lt) hA.size) ncb]; rw [← hcb]; exact (hDn.c.of hA).fz 65
  have z67 : w5.frozen? ⟨M.cb, 67, none⟩ = false := by rw [hgrow.frozen_far ⟨M.cb, 67, none⟩ (Nat.lt_of_lt_of_le (by rw [← hcb]; exact hDn.c.lt) hA.size) ncb]; rw [← hcb]; exact (hDn.c.of hA).fz 67
  go_simp
  refine hK _ _ ⟨fun _ => hF5, ?_⟩
  clear hK K
  refine wpAnyF_one (k := 16) (by kernel_rfl) ?_
  refine wpOp_step rfl (fun K hK => ?_)
  go_simp
  refine hK _ _ ⟨fun _ => hF5, ?_⟩
  clear hK K
  refine wpAnyF_one (k := 17) (by kernel_rfl) ?_
  refine wpOp_step rfl (fun K hK => ?_)
  go_simp
  refine hK _ _ ⟨fun _ => hF5, ?_⟩
  clear hK K
  refine wpAnyF_one (k := 18) (by kernel_rfl) ?_
  refine wpOp_step rfl (fun K hK => ?_)
  go_simp
  refine hK _ _ ⟨fun _ => hF6, ?_⟩
  clear hK K
  refine wpAnyF_one (k := 19) (by kernel_rfl) ?_
  refine wpOp_step rfl (fun K hK => ?_)
  go_simp
  refine hK _ _ ⟨fun _ => hF6, ?_⟩
  clear hK K
  refine wpAnyF_one (k := 20) (by kernel_rfl) ?_
  refine wpOp_step rfl (fun K hK => ?_)
  go_simp
  refine hK _ _ ⟨fun _ => hF6, ?_⟩
  clear hK K
  refine wpAnyF_one (k := 21) (by kernel_rfl) ?_
  refine wpOp_step rfl (fun K hK => ?_)
  go_simp
  refine hK _ _ ⟨fun h => (Bool.false_ne_true (h.symm.trans (by kernel_rfl))).elim, ?_⟩
  clear hK K
  refine wpAnyF_done (by kernel_rfl) ⟨rfl, ?_⟩
  have hC5 := (hDn.c.of hA).growR (t' := s.tr ++ [n]) hgrow (by rw [List.length_append, snL_snoc, hN]; exact hown5) (by rw [List.length_append, hN]; simp; omega) (own_blk' hat)
  have hC6 := hC5.setPc hrn
  simp only [hcb] at hC6
  rw [set_comm _ _ _ _ _ _ (by omega)] at hC6
  have O6 : Only (fun j => M.own j ∨ w.heap.size ≤ j) w ((w5.setCell ⟨M.cb, 65, none⟩ (.int .u64 (r.pc : Nat))).setCell ⟨M.cb, 67, none⟩ (.slice (some ⟨g, 0, none⟩) (N + 1) cap)) := by
    refine Only.setCell (Only.setCell ?_ (.inl (.inl rfl))) (.inl (.inl rfl))
    refine (obl hDn.o hA).trans ((O5.mono fun j hj => ?_))
    exact hnx j (.inr (.inr (.inr hj.symm)))
  obtain ⟨w7, hw7⟩ : ∃ w7, (w5.setCell ⟨M.cb, 65, none⟩ (.int .u64 (r.pc : Nat))).setCell ⟨M.cb, 67, none⟩ (.slice (some ⟨g, 0, none⟩) (N + 1) cap) = w7 := ⟨_, rfl⟩
  have e7 : w7.cell? ⟨w.heap.size + 1, 0, none⟩ = some (.int .i64 0) := by
    rw [← hw7, World.cell?_setCell_other (h := by intro e; injection e with e _ _; omega), World.cell?_setCell_other (h := by intro e; injection e with e _ _; omega)]
    exact e5
  have f7 : w7.frozen? ⟨w.heap.size + 1, 0, none⟩ = false := by
    rw [← hw7, World.frozen?_setCell, World.frozen?_setCell, hgrow.frozen_far ⟨w.heap.size + 1, 0, none⟩ (Nat.lt_of_lt_of_le (by have := hDn.sz; simp only; omega) hA.size) nh1]
    exact ((only_below (S := fun _ => False) hA).frozen (by have := hDn.sz; simp only; omega) (fun h => h)).trans (hDn.f 0)
  rw [hw7] at hC6 O6 ⊢
  have hM2 : ({ (({ r.go s.pc with tr := s.tr ++ [n] } : Ms).go r.pc) with } : Ms) = r.seen n := by unfold Ms.seen Ms.go; rw [hDn.tr]
  have hnew : ∀ j, (⟨M.cb, M'.x, M'.vt, .slice (some ⟨g, 0, none⟩) (N + 1) cap⟩ : Mc).own j → M.own j ∨ w.heap.size ≤ j := fun j hj => by
    rcases hj with hj | hj | hj | hj
    · exact .inl (.inl hj)
    · exact hnx j (.inr (.inl hj))
    · exact hnx j (.inr (.inr (.inl hj)))
    · rcases own_blk' hat j hj with e | e
      · exact hnx j (.inr (.inr (.inr e)))
      · have := hDn.sz; have := hA.size; exact .inr (by omega)
  have nall : ∀ j, (⟨M.cb, M'.x, M'.vt, .slice (some ⟨g, 0, none⟩) (N + 1) cap⟩ : Mc).all j → ¬ j = w.heap.size + 1 := fun j hj e => by
    rcases hj with (hj | hj | hj | hj) | hj
    · have hj : j = M.cb := hj
      omega
    · exact hDn.n1 (by rw [← e]; exact .inl (.inr (.inl hj)))
    · exact hDn.n1 (by rw [← e]; exact .inl (.inr (.inr (.inl hj))))
    · rcases own_blk' hat j hj with e' | e'
      · exact hDn.n1 (by rw [← e]; exact .inl (.inr (.inr (.inr e'))))
      · have := hDn.sz; have := hA.size; omega
    · exact hDn.n1 (by rw [← e]; exact .inr hj)
  have hE : StP w M (0, r.seen n) (.returned (.int .i64 0)) (w7.setCell ⟨w.heap.size + 1, 0, none⟩ (.int .i64 0)) := by
    refine ⟨⟨M.cb, M'.x, M'.vt, .slice (some ⟨g, 0, none⟩) (N + 1) cap⟩, ⟨rfl, hxx, hnew⟩, rfl, ?_, ?_⟩
    · have := hC6.only (only_one w7 (w.heap.size + 1) 0 (.int .i64 0)) nall
      rw [← hM2]
      exact this
    · have a1 : Only (fun j => M.own j ∨ w.heap.size ≤ j) w (w7.setCell ⟨w.heap.size + 1, 0, none⟩ (.int .i64 0)) := O6.setCell (.inr (by omega))
      exact ⟨a1.os, a1.tape, a1.output, a1.size, fun j hj hn => a1.block j hj (fun hh => by
        rcases hh with hh | hh
        · exact hn hh
        · omega)⟩
  have e8 : (w7.setCell ⟨w.heap.size + 1, 0, none⟩ (.int .i64 0)).cell? ⟨w.heap.size + 1, 0, none⟩ = some (.int .i64 0) := cset_same _ e7
  clear g0 hF5 hF0 hF1 hF6 hw7 hC6 hC5 O6 hM2 nall hnew hgrow hown5
  go_wp2
  refine leaves_cons (f := 25) (args := #[.pointer (some ⟨w.heap.size + 1, 0, none⟩), .pointer (some ⟨w.heap.size, 0, none⟩)]) (by simp) (by simp [go_sem]) ?_
  refine (catch_idle _ _ _).mono ?_
  rintro e u' w'' ⟨rfl, rfl, rfl⟩
  refine (show Leaves _ _ _ _ [] .returning _ from ⟨.int .i64 0, ?_, hE⟩)
  simp [results, Tryz.results8, go_sem, e8]
theorem dn_of {w w2 w4 : World} {M : Mc} {s : Ms} {x : In} {r : Ex} {e : Ending} {sb : Nat} (h : IsC w M s) (hS : IsS w2 sb M.cb x (s.rv x.rs1) (s.rt x.rs1) (s.rv x.rs2) (s.rt x.rs2) s.sn s.nx) (hsb : w.heap.size + 2 ≤ sb)
    (hb : Below (w.heap.size + 2) ((w.alloc (.cells #[.pointer (some ⟨M.cb, 0, none⟩)] 29)).alloc (.cells #[.int .i64 0] 35)) w2) (hr : OkM w2 M (r.s.go s.pc) sb x (s.rv x.rs1) (s.rt x.rs1) (s.rv x.rs2) (s.rt x.rs2) r.n r.s.pc e w4) (ht : r.s.tr = s.tr) : e = .returned (.tuple #[]) ∧ ∃ M', Dn w w4 M M' s r.s r.n sb := by
  obtain ⟨M', ⟨n1, n2, n3⟩, he, hm, ho⟩ := hr
  obtain ⟨hB, e0, p0, fe, hsz⟩ := two_new w ⟨M.cb, 0, none⟩ 0
  have hsz2 := hb.size
  rw [hsz] at hsz2
  have hall : ∀ j, M.all j → j < w.heap.size := fun j hj => h.all_lt hj
  have nS : ∀ j, j = w.heap.size ∨ j = w.heap.size + 1 → ¬ (M.own j ∨ j = sb) := fun j hj hs => by
    rcases hs with hs | hs
    · have := hall j (.inl hs); omega
    · omega
  have nM : ∀ j, M'.all j → M.all j ∨ w.heap.size + 2 ≤ j := fun j hj => by
    rcases hj with hj | hj | hj
    · rcases n3 j hj with h1 | h1
      · exact .inl (.inl h1)
      · exact .inr (by omega)
    · rw [n2] at hj; exact .inl (.inr (.inl hj))
    · rw [n2] at hj; exact .inl (.inr (.inr hj))
  have c2 : ∀ {o : Nat} {v : Value} {b : Nat}, b = w.heap.size ∨ b = w.heap.size + 1 → ((w.alloc (.cells #[.pointer (some ⟨M.cb, 0, none⟩)] 29)).alloc (.cells #[.int .i64 0] 35)).cell? ⟨b, o, none⟩ = some v → w4.cell? ⟨b, o, none⟩ = some v := fun {o v b} hb' hc => ho.cell (nS b hb') ((hb.cell (by simp only; omega)).trans hc)
  have hO : Only (fun j => M.own j ∨ w.heap.size ≤ j) w w4 := by
    refine ((only_below hB).trans ?_).trans (ho.mono fun j hj => hj.imp id fun e => by omega)
    exact ⟨hb.os, hb.tape, hb.output, hb.size, fun j hj hn => hb.block j (by
      rcases Nat.lt_or_ge j (w.heap.size + 2) with h' | h'
      · exact h'
      · exact absurd (Or.inr (by omega)) hn)⟩
  refine ⟨he, M', hm.c, hm.p.d10, hm.p.d11, hm.p.d12, hm.p.d13, hm.p.d14, hm.p.d15, c2 (.inl rfl) p0, c2 (.inr rfl) e0, fun o => ?_, ⟨n1, n2, fun j hj => (n3 j hj).imp id fun e => by omega⟩, hO, hm.ne, fun e => ?_, fun e => ?_, ht, Nat.le_trans hsz2 ho.size⟩
  · rw [ho.frozen (by simp only; omega) (nS _ (.inr rfl))]
    have : w2.frozen? ⟨w.heap.size + 1, o, none⟩ = ((w.alloc (.cells #[.pointer (some ⟨M.cb, 0, none⟩)] 29)).alloc (.cells #[.int .i64 0] 35)).frozen? ⟨w.heap.size + 1, o, none⟩ := by
      unfold World.frozen?
      rw [hb.block _ (by simp only; omega)]
    rw [this]
    exact fe o
  · rcases nM _ e with h1 | h1
    · have := hall _ h1; omega
    · omega
  · rcases nM _ e with h1 | h1
    · have := hall _ h1; omega
    · omega
theorem step_any {w : World} {M : Mc} {s : Ms} (h : IsC w M s) (hT : Tb w) (hk : s.tk) : Calls Tryz.prog 8 #[.pointer (some ⟨M.cb, 0, none⟩)] w (StP w M (stF M.x.l s)) := by
  unfold stF
  by_cases ho : s.ov = true
  · rw [if_pos ho]; exact step_over h ho
  rw [if_neg ho]
  have ho' : s.ov = false := by simpa using ho
  by_cases hn : s.tr.length = 1048576
  · rw [if_pos hn]; exact step_full h ho' hn
  rw [if_neg hn]
  have hl : s.tr.length < 1048576 := by have := h.ok.n; omega
  unfold doF
  by_cases hf : (feF M.x.l s.bv s.pc).2 = 0
  · rw [if_pos hf]
    cases hd : decN (feF M.x.l s.bv s.pc).1 with
    | none => exact step_wrong h ho' hn 7 fun w' h' hb' => begin_form h' (hT.of hb') hf hd
    | some x =>
      have hx := dec_regs hd
      have hbg : ∀ w', IsC w' M s → Below w.heap.size w w' → Calls Tryz.prog 26 #[.pointer (some ⟨M.cb, 0, none⟩)] w' (BgP w' M s x) := fun w' h' hb' => begin_yes h' (hT.of hb') hf hd
      show Calls _ _ _ _ (StP w M (exE s (exF M.x.l s x)))
      unfold exE
      by_cases he : (exF M.x.l s x).e = 0
      · rw [if_pos he]
        have hok := exF_ok h.ok x hl he
        refine step_good h ho' hn hx (exF M.x.l s x).s (exF M.x.l s x).n hok.p hbg ?_
        intro w2 sb hS hsb hb2
        obtain ⟨hB, _, _, _, hsz⟩ := two_new w ⟨M.cb, 0, none⟩ 0
        have h2 : IsC w2 M s := (h.of hB).of (by rw [hsz]; exact hb2)
        have hmid : Mid w2 M s sb x (s.rv x.rs1) (s.rt x.rs1) (s.rv x.rs2) (s.rt x.rs2) s.sn s.nx := ⟨h2, hS, fun e => by have := h.all_lt e; omega⟩
        exact (mt_any hmid (Nat.le_trans hk h.ok.n) hx.2.1 hx.1).mono fun e w' hh => dn_of h hS hsb hb2 (hh.1 he) (exF_told _ _ _).2
      · rw [if_neg he]
        exact step_bad h ho' hn hk hx he hbg
  · rw [if_neg hf]
    exact step_wrong h ho' hn _ fun w' h' hb' => begin_fault h' hf
end Go.Proofs.YtfaacmcnefbgcaaGreatDoor.m4
