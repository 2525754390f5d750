/- Contracts of the reader of programs: an expression. -/
import Derived.Test.YtfbjljcmmbdhkaaGreatDoorT13
import Derived.Test.YtfbjljcmmbdhkaaGreatDoorT31
import Derived.Test.YtfbjljcmmbdhkaaGreatDoorT01
import Derived.MapKept
import Derived.StringKeys
import Derived.Test.YtfbjljcmmbdhkaaGreatDoorT04
namespace Go.Proofs.YtfbjljcmmbdhkaaGreatDoor
set_option linter.unusedVariables false
set_option linter.unusedSimpArgs false
set_option maxRecDepth 100000
set_option maxHeartbeats 200000000
open Go.ChangeShapes Go.WideShapes Go.ChangeAt Go.RowKit
def VX (w w' : World) (u : Value) (x : Xp) : Prop := IsE (fun b => w.heap.size ≤ b ∧ b < w'.heap.size) w' u x
def sliceN : Value → Nat
 | .slice _ n _ => n
 | _ => 0
theorem infoSl : (Tryz.prog.info? 9).map (fun i => (i.zero, i.size, i.bytes)) = some (some (.string ⟨#[]⟩), 1, 16) := by kernel_rfl
theorem infoPl : (Tryz.prog.info? 49).map (fun i => (i.zero, i.size, i.bytes)) = some (some (.agg #[.string ⟨#[]⟩, .bool false, .bool false, .bool false]), 4, 24) := by kernel_rfl
def readOf (s : List UInt8) : Option (Option (Nat × Value)) := Instr.findNow .string (.string (str s)) readsM.toList 0
theorem infoS9 : (Tryz.prog.info? 52).map (fun i => (i.zero, i.size, i.bytes)) = some (some (.agg #[.int .u8 0, .string ⟨#[]⟩, .string ⟨#[]⟩, .bool false, .bool false, .slice none 0 0, .slice none 0 0, .slice none 0 0, .slice none 0 0]), 9, 144) := by kernel_rfl
inductive IsFd (G : Nat → Prop) (w : World) : Value → Fd → Prop
 | mk {nm : List UInt8} {ps : List Pm} {bd : List St} {sec : Bool} {rt : List Xp} {mp mb mr : Option Addr} {cp cb cr : Nat} (hp : ps.length ≤ 140737488355328) (hb : bd.length ≤ 140737488355328) (hr : rt.length ≤ 140737488355328)
    (hP : PmsAt G w ps mp) (hB : StsAt G w bd mb) (hR : KidsAt G w rt mr) : IsFd G w (.agg #[.string (str nm), .slice mp ps.length cp, .slice mb bd.length cb, .bool sec, .slice mr rt.length cr]) ⟨nm, ps, bd, sec, rt⟩
def VF (w w' : World) (u : Value) (x : Fd) : Prop := IsFd (fun b => w.heap.size ≤ b ∧ b < w'.heap.size) w' u x
theorem IsFd.mv {G G' : Nat → Prop} {w w' : World} {v : Value} {x : Fd} (h : IsFd G w v x) (hg : ∀ b, G b → G' b) (hc : ∀ b o v, G b → w.cell? ⟨b, o, none⟩ = some v → w'.cell? ⟨b, o, none⟩ = some v) : IsFd G' w' v x := by
 cases h with
 | mk hp hb hr hP hB hR => exact .mk hp hb hr (hP.mv hg hc) (hB.mv hg hc) (hR.mv hg hc)
theorem IsFd.of {G : Nat → Prop} {w w' : World} {v : Value} {x : Fd} (h : IsFd G w v x) (hb : Below w.heap.size w w') : IsFd G w' v x := h.mv (fun _ h => h) (fun b o v _ hc => stay hb hc)
theorem IsFd.only {G S : Nat → Prop} {w w' : World} {v : Value} {x : Fd} (h : IsFd G w v x) (ho : Only S w w') (hs : ∀ b, G b → ¬ S b) : IsFd G w' v x := h.mv (fun _ h => h) (fun b o v hg hc => ho.cell (hs b hg) hc)
theorem IsFd.mono {G G' : Nat → Prop} {w : World} {v : Value} {x : Fd} (h : IsFd G w v x) (hg : ∀ b, G b → G' b) : IsFd G' w v x := h.mv hg (fun _ _ _ _ h => h)
structure Fx where
 nm : List UInt8
 mp : Option Addr
 np : Nat
 cp : Nat
 mb : Option Addr
 nb : Nat
 cb : Nat
 sec : Bool
 mr : Option Addr
 nr : Nat
 cr : Nat
 x : Fd
def Fx.cells (K : Fx) : List Value := [.string (str K.nm), .slice K.mp K.np K.cp, .slice K.mb K.nb K.cb, .bool K.sec, .slice K.mr K.nr K.cr]
def Fx.is (G : Nat → Prop) (w : World) (K : Fx) : Prop := IsFd G w (.agg #[.string (str K.nm), .slice K.mp K.np K.cp, .slice K.mb K.nb K.cb, .bool K.sec, .slice K.mr K.nr K.cr]) K.x
def fxs (L : List Fx) : List Value := L.flatMap Fx.cells
theorem fxs_app (a b : List Fx) : fxs (a ++ b) = fxs a ++ fxs b := by simp [fxs]
theorem fxs_one (L : List Fx) : ∀ u ∈ fxs L, u.oneCell' = true := by
 intro u hu
 unfold fxs at hu
 obtain ⟨K, _, hp⟩ := List.mem_flatMap.1 hu
 unfold Fx.cells at hp
 simp only [List.mem_cons, List.not_mem_nil, or_false] at hp
 rcases hp with rfl | rfl | rfl | rfl | rfl <;> rfl
theorem fxs_at : ∀ (L : List Fx) (i : Nat) (h : i < L.length) (r : Nat) (hr : r < 5), (fxs L)[i * 5 + r]? = L[i].cells[r]? := by
 intro L
 induction L with
 | nil => intro i h; simp at h
 | cons K L ih =>
  intro i h r hr
  cases i with
  | zero =>
   have hc : r = 0 ∨ r = 1 ∨ r = 2 ∨ r = 3 ∨ r = 4 := by omega
   rcases hc with rfl | rfl | rfl | rfl | rfl <;> rfl
  | succ i =>
   have := ih i (by simpa using h) r hr
   rw [show (i + 1) * 5 + r = (i * 5 + r) + 1 + 1 + 1 + 1 + 1 by omega]
   exact this
def FdsAt (G : Nat → Prop) (w : World) (l : List Fd) (ma : Option Addr) : Prop := ∀ i (h : i < l.length), ∃ (b o : Nat) (K : Fx), ma = some ⟨b, o, none⟩ ∧ G b ∧ K.x = l[i] ∧ K.is G w ∧ ∀ r u, K.cells[r]? = some u → w.cell? ⟨b, o + i * 5 + r, none⟩ = some u
theorem FdsAt.mv {G G' : Nat → Prop} {w w' : World} {l : List Fd} {ma : Option Addr} (h : FdsAt G w l ma) (hg : ∀ b, G b → G' b) (hc : ∀ b o v, G b → w.cell? ⟨b, o, none⟩ = some v → w'.cell? ⟨b, o, none⟩ = some v) : FdsAt G' w' l ma := fun i hi => by
 obtain ⟨b, o, K, e, hb, hx, hK, h1⟩ := h i hi
 exact ⟨b, o, K, e, hg _ hb, hx, IsFd.mv hK hg hc, fun r u hu => hc _ _ _ hb (h1 r u hu)⟩
theorem FdsAt.of {G : Nat → Prop} {w w' : World} {l : List Fd} {ma : Option Addr} (h : FdsAt G w l ma) (hb : Below w.heap.size w w') : FdsAt G w' l ma := h.mv (fun _ h => h) (fun b o v _ hc => stay hb hc)
theorem FdsAt.only {G S : Nat → Prop} {w w' : World} {l : List Fd} {ma : Option Addr} (h : FdsAt G w l ma) (ho : Only S w w') (hs : ∀ b, G b → ¬ S b) : FdsAt G w' l ma := h.mv (fun _ h => h) (fun b o v hg hc => ho.cell (hs b hg) hc)
theorem FdsAt.mono {G G' : Nat → Prop} {w : World} {l : List Fd} {ma : Option Addr} (h : FdsAt G w l ma) (hg : ∀ b, G b → G' b) : FdsAt G' w l ma := h.mv hg (fun _ _ _ _ h => h)
theorem FdsAt.nil {G : Nat → Prop} {w : World} {ma : Option Addr} : FdsAt G w [] ma := fun i h => by simp at h
theorem row_fds {w : World} {B M : Nat} {a : Option Addr} {c : Nat} {L : List Fx} (h : w.ownsRow B 43 5 (.slice a M c) M (fxs L)) (hM : M = L.length) (hK : ∀ K ∈ L, K.is (fun b => B ≤ b ∧ b < w.heap.size ∧ ¬ (Value.slice a M c).ownBlock = some b) w) :
 FdsAt (fun b => B ≤ b ∧ b < w.heap.size) w (L.map (·.x)) a := fun i hi => by
 have hi' : i < L.length := by simpa using hi
 obtain ⟨g, cg, e, hg1, hg2⟩ := h.form (by omega)
 simp only [Value.slice.injEq, true_and] at e
 obtain ⟨rfl, rfl⟩ := e
 refine ⟨g, 0, L[i], rfl, ⟨hg1, hg2⟩, by simp, IsFd.mono (hK _ (List.getElem_mem hi')) (fun b hb => ⟨hb.1, hb.2.1⟩), fun r u hu => ?_⟩
 have hr : r < 5 := by
  have := (List.getElem?_eq_some_iff.1 hu).1
  simpa [Fx.cells] using this
 rw [Nat.zero_add, h.cellAt (i * 5 + r) (by omega), fxs_at L i hi' r hr]
 exact hu
theorem fx_append {g H : Nat} {w w5 : World} {lv : Value} (hg : w.grownBy w5 lv.ownBlock) (hat : lv.ownBlock = some g ∨ g = H) (hH : w.heap.size = H) {B : Nat} (L : List Fx)
 (h : ∀ K ∈ L, K.is (fun b => B ≤ b ∧ b < w.heap.size ∧ ¬ lv.ownBlock = some b) w) (n cap : Nat) :
 ∀ K ∈ L, K.is (fun b => B ≤ b ∧ b < w5.heap.size ∧ ¬ (Value.slice (some ⟨g, 0, none⟩) n cap).ownBlock = some b) w5 := by
 intro K hK
 have ho := only_grown hg
 refine (IsFd.only (h K hK) ho (fun b hb e => hb.2.2 e.symm)).mono (fun b hb => ⟨hb.1, Nat.lt_of_lt_of_le hb.2.1 ho.size, fun e => ?_⟩)
 simp only [Value.ownBlock, Option.some.injEq] at e
 subst e
 rcases hat with h1 | h1
 ·exact hb.2.2 h1
 ·omega
def VG (w w' : World) (u : Value) (l : List Fd) : Prop := ∃ ma cap, u = .agg #[.slice ma l.length cap] ∧ l.length ≤ 16 ∧ FdsAt (fun b => w.heap.size ≤ b ∧ b < w'.heap.size) w' l ma
theorem infoF5 : (Tryz.prog.info? 43).map (fun i => (i.zero, i.size, i.bytes)) = some (some (.agg #[.string ⟨#[]⟩, .slice none 0 0, .slice none 0 0, .bool false, .slice none 0 0]), 5, 96) := by kernel_rfl
def cellN (w : World) (g : Nat) : Nat := match w.cell? ⟨g, 0, none⟩ with
 | some v => sliceN v
 | none => 0
end Go.Proofs.YtfbjljcmmbdhkaaGreatDoor
