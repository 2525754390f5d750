/- Contract of the reader's expression, whatever stands there. -/
import Derived.Test.YtfbjljcmmbdhkaaGreatDoorD21
import Derived.Test.YtfbjljcmmbdhkaaGreatDoorD22
import Derived.Test.YtfbjljcmmbdhkaaGreatDoorD17
namespace Go.Proofs.YtfbjljcmmbdhkaaGreatDoor
set_option linter.unusedVariables false
set_option linter.unusedSimpArgs false
set_option maxRecDepth 100000
set_option maxHeartbeats 200000000
open Go.ChangeShapes Go.WideShapes Go.ChangeAt Go.RowKit
theorem ex_deep {w : World} {rb : Nat} {v : Value} {T : List (Tk × Int)} {p : Int} (h : IsRd w rb v T p 40) : Calls Tryz.prog 178 #[.pointer (some ⟨rb, 0, none⟩)] w (ExEr w rb v T 70 p) := by
 have e2 := h.c2
 have HH := Lib.hid h
 have hrl := h.lt
 clear h
 go_enter Tryz.func178, Tryz.ntmps178
 go_wp2
 exact bodyPost_ret (zJe rfl _ _ w.heap.size _ _ _ _ _ _ rfl rfl (zQf _ _ _ _ rfl)) rfl ⟨rfl, ⟨_, HH.out.of (aB (Below.refl _ _) _)⟩, zQd (aB (Below.refl _ _) _)⟩
theorem jZk : ∀ (d : Nat) (T : List Tk) (p e q : Nat), rdE d T p = .er e q → e = 7 ∨ e = 70 := by
 intro d
 induction d with
 | zero => intro T p e q h; cases h; exact .inr rfl
 | succ d ih =>
  intro T p e q h
  rw [rdE] at h
  cases h0 : T[p]? with
  | none => simp only [h0] at h; cases h; exact .inl rfl
  | some t =>
   simp only [h0] at h
   by_cases c3 : t.k = 3
   ·rw [if_pos c3] at h
    by_cases ct : t.t = []
    ·rw [if_pos ct] at h; cases h
    ·rw [if_neg ct] at h; cases h; exact .inl rfl
   ·rw [if_neg c3] at h
    by_cases c35 : t = sg [35]
    ·rw [if_pos c35] at h
     cases h1 : T[p + 1]? with
     | none => simp only [h1] at h; cases h; exact .inl rfl
     | some u =>
      simp only [h1] at h
      by_cases cn : zJf u = true
      ·rw [if_pos cn] at h; cases h
      ·rw [if_neg cn] at h; cases h; exact .inl rfl
    ·rw [if_neg c35] at h
     by_cases c40 : t = sg [40]
     ·rw [if_pos c40] at h
      cases ha : rdE d T (p + 1) with
      | er e' q' => simp only [ha] at h; cases h; exact ih _ _ _ _ ha
      | ok a q1 =>
       simp only [ha] at h
       cases h1 : T[q1]? with
       | none => simp only [h1] at h; cases h; exact .inl rfl
       | some u =>
        simp only [h1] at h
        by_cases co : opOf u = 0
        ·rw [if_pos co] at h; cases h; exact .inl rfl
        ·rw [if_neg co] at h
         cases hb : rdE d T (q1 + 1) with
         | er e' q' => simp only [hb] at h; cases h; exact ih _ _ _ _ hb
         | ok b r =>
          simp only [hb] at h
          by_cases cr : T[r]? = some (sg [41])
          ·rw [if_pos cr] at h; cases h
          ·rw [if_neg cr] at h; cases h; exact .inl rfl
     ·rw [if_neg c40] at h
      by_cases cn : zJf t = true
      ·rw [if_pos cn] at h
       by_cases c91 : T[p + 1]? = some (sg [91])
       ·rw [if_pos c91] at h
        cases ha : rdE d T (p + 2) with
        | er e' q' => simp only [ha] at h; cases h; exact ih _ _ _ _ ha
        | ok a q1 =>
         simp only [ha] at h
         by_cases cr : T[q1]? = some (sg [93])
         ·rw [if_pos cr] at h; cases h
         ·rw [if_neg cr] at h; cases h; exact .inl rfl
       ·rw [if_neg c91] at h; cases h
      ·rw [if_neg cn] at h; cases h; exact .inl rfl
theorem jZi (l : List UInt8) : ¬ (⟨0, [], 0⟩ : Tk) = sg l := by intro h; have := congrArg Tk.k h; simp [sg] at this
theorem at_sg {T : List (Tk × Int)} {p : Nat} {l : List UInt8} : zXy T (p : Int) = sg l ↔ (zQb T)[p]? = some (sg l) := by
 cases h : (zQb T)[p]? with
 | none => rw [yQz h]; exact ⟨fun e => absurd e (jZi l), fun e => by cases e⟩
 | some t => rw [(zJo h).1]; exact ⟨fun e => by rw [e], fun e => Option.some.inj e⟩
theorem jJy {w : World} {rb : Nat} {v : Value} {T : List (Tk × Int)} {p d : Int} (h : IsRd w rb v T p d) (hT : Tb w) (hG : ¬ GB rb) (hd0 : 0 ≤ d) (hd1 : d < 40) (t : Tk) (ht : zXy T p = t) (h3 : ¬ t.k = 3) (h35 : ¬ t = sg [35]) (h40 : ¬ t = sg [40]) (hn : zJf t = false) :
 Calls Tryz.prog 178 #[.pointer (some ⟨rb, 0, none⟩)] w (ExEr w rb v T 7 p) := by
 by_cases h91 : zXy T (p + 1) = sg [91]
 ·exact (xQx h hT hG hd0 hd1 (by unfold yQd; rw [ht, if_neg h3, if_neg h35, if_neg h40, if_pos h91]) t ht).1 hn
 ·exact (ex_nvl.2.1 h hT hG hd0 hd1 (by unfold yQd; rw [ht, if_neg h3, if_neg h35, if_neg h40, if_neg h91]) t ht).1 hn
def ReadIH (D : Nat) : Prop := ∀ (w : World) (rb : Nat) (v : Value) (T : List (Tk × Int)) (p : Nat) (d : Int), d = 40 - (D : Int) → IsRd w rb v T (p : Int) d → Tb w → ¬ GB rb → Calls Tryz.prog 178 #[.pointer (some ⟨rb, 0, none⟩)] w (ExP w rb v T d (rdE D (zQb T) p))
theorem ex_any : ∀ D, D ≤ 40 → ReadIH D := by
 intro D
 induction D with
 | zero =>
  intro _ w rb v T p d hd h hT hG
  obtain rfl : d = 40 := by omega
  exact ex_deep h
 | succ D ih =>
  intro hD w rb v T p d hd h hT hG
  have hd0 : 0 ≤ d := by omega
  have hd1 : d < 40 := by omega
  have hdd : d + 1 = 40 - (D : Int) := by omega
  have IH := ih (by omega)
  rw [rdE]
  cases h0 : (zQb T)[p]? with
  | none => exact jJy h hT hG hd0 hd1 _ (yQz h0) (by simp) (jZi _) (jZi _) (by simp [zJf])
  | some t =>
   obtain ⟨ht, h00, h01⟩ := zJo h0
   simp only
   by_cases c3 : t.k = 3
   ·rw [if_pos c3]
    have hk : yQd T p = 1 := by unfold yQd; rw [ht, if_pos c3]
    obtain ⟨tk, tt, tn⟩ := t
    simp only at c3
    subst c3
    by_cases ct : tt = []
    ·rw [if_pos ct]
     subst ct
     exact (ex_nvl.1 h hT hG hd0 hd1 hk tn).2 ht h00 h01
    ·rw [if_neg ct]
     exact (ex_nvl.1 h hT hG hd0 hd1 hk tn).1 tt ht ct
   ·rw [if_neg c3]
    by_cases c35 : t = sg [35]
    ·rw [if_pos c35]
     have hk : yQd T p = 4 := by unfold yQd; rw [ht, if_neg c3, if_pos c35]
     rw [c35] at ht
     cases h1 : (zQb T)[p + 1]? with
     | none => exact (ex_nvl.2.2 h hT hG hd0 hd1 hk ht h00 h01 ⟨0, [], 0⟩ (yQz h1)).1 (by simp [zJf])
     | some u =>
      obtain ⟨hu, h10, h11⟩ := zJo h1
      simp only
      by_cases cn : zJf u = true
      ·rw [if_pos cn]; exact (ex_nvl.2.2 h hT hG hd0 hd1 hk ht h00 h01 u hu).2 h10 h11 cn
      ·rw [if_neg cn]; exact (ex_nvl.2.2 h hT hG hd0 hd1 hk ht h00 h01 u hu).1 (by simpa using cn)
    ·rw [if_neg c35]
     by_cases c40 : t = sg [40]
     ·rw [if_pos c40]
      have hk : yQd T p = 3 := by unfold yQd; rw [ht, if_neg c3, if_neg c35, if_pos c40]
      rw [c40] at ht
      have I1 := fun W hR hW => IH W rb v T (p + 1) (d + 1) hdd hR hW hG
      cases ha : rdE D (zQb T) (p + 1) with
      | er e q =>
       rw [ha] at I1
       have := jZk _ _ _ _ _ ha
       exact (xQf h hT hG hd0 hd1 hk ht h00 h01).1 e q I1 (by omega)
      | ok a q =>
       rw [ha] at I1
       simp only
       cases h1 : (zQb T)[q]? with
       | none => exact ((xQf h hT hG hd0 hd1 hk ht h00 h01).2 a q I1).1 (fun j hj => by rw [yQz h1]; exact jZi _)
       | some u =>
        obtain ⟨hu, h20, h21⟩ := zJo h1
        simp only
        by_cases co : opOf u = 0
        ·rw [if_pos co]
         exact ((xQf h hT hG hd0 hd1 hk ht h00 h01).2 a q I1).1 (fun j hj e => by
          rw [hu] at e
          rw [e, yJw j hj] at co
          subst co
          exact hj rfl)
        ·rw [if_neg co]
         obtain ⟨o1, o2, o3⟩ := jQk co
         rw [o2] at hu
         have I2 := fun W hR hW => IH W rb v T (q + 1) (d + 1) hdd hR hW hG
         cases hb : rdE D (zQb T) (q + 1) with
         | er e r =>
          rw [hb] at I2
          have := jZk _ _ _ _ _ hb
          exact (((xQf h hT hG hd0 hd1 hk ht h00 h01).2 a q I1).2 (opOf u) (by omega) o3 hu h20 h21).1 e r I2 (by omega)
         | ok b r =>
          rw [hb] at I2
          simp only
          by_cases cr : (zQb T)[r]? = some (sg [41])
          ·rw [if_pos cr]
           obtain ⟨hr, h40, h41⟩ := zJo cr
           exact ((((xQf h hT hG hd0 hd1 hk ht h00 h01).2 a q I1).2 (opOf u) (by omega) o3 hu h20 h21).2 b r I2).2 hr h40 h41
          ·rw [if_neg cr]
           exact ((((xQf h hT hG hd0 hd1 hk ht h00 h01).2 a q I1).2 (opOf u) (by omega) o3 hu h20 h21).2 b r I2).1 (fun e => cr (at_sg.1 e))
     ·rw [if_neg c40]
      by_cases cn : zJf t = true
      ·rw [if_pos cn]
       by_cases c91 : (zQb T)[p + 1]? = some (sg [91])
       ·rw [if_pos c91]
        obtain ⟨h9, h10, h11⟩ := zJo c91
        have hk : yQd T p = 5 := by unfold yQd; rw [ht, if_neg c3, if_neg c35, if_neg c40]; exact if_pos h9
        have I1 := fun W hR hW => IH W rb v T (p + 2) (d + 1) hdd hR hW hG
        cases ha : rdE D (zQb T) (p + 2) with
        | er e q =>
         rw [ha] at I1
         have := jZk _ _ _ _ _ ha
         exact ((xQx h hT hG hd0 hd1 hk t ht).2 h00 h01 cn h9 h10 h11).1 e q I1 (by omega)
        | ok a q =>
         rw [ha] at I1
         simp only
         by_cases cr : (zQb T)[q]? = some (sg [93])
         ·rw [if_pos cr]
          obtain ⟨hr, h30, h31⟩ := zJo cr
          exact (((xQx h hT hG hd0 hd1 hk t ht).2 h00 h01 cn h9 h10 h11).2 a q I1).2 hr h30 h31
         ·rw [if_neg cr]
          exact (((xQx h hT hG hd0 hd1 hk t ht).2 h00 h01 cn h9 h10 h11).2 a q I1).1 (fun e => cr (at_sg.1 e))
       ·rw [if_neg c91]
        have hk : yQd T p = 2 := by unfold yQd; rw [ht, if_neg c3, if_neg c35, if_neg c40]; exact if_neg (fun e => c91 (at_sg.1 e))
        exact (ex_nvl.2.1 h hT hG hd0 hd1 hk t ht).2 h00 h01 cn
      ·rw [if_neg cn]
       exact jJy h hT hG hd0 hd1 t ht c3 c35 c40 (by simpa using cn)
def RdP (w : World) (T : List (Tk × Int)) (R : Ro) (e : Ending) (w' : World) : Prop :=
 match R with
 | .er c q => e = .returned (.tuple #[zX, .int .i64 0, .iface 115 (.agg #[.int .i64 (zJw T (q : Int)), .int .i64 (c : Int)])]) ∧ Below w.heap.size w w'
 | .ok x q => (∃ (k n : Int) (s : ByteArray) (o : Int) (mk : Option Addr) (m cap : Nat), e = .returned (.tuple #[vX k n s o mk m cap, .int .i64 (q : Int), .nilIface]) ∧ IsE (fun b => w.heap.size ≤ b ∧ b < w'.heap.size) w' (vX k n s o mk m cap) x) ∧ Below w.heap.size w w'
theorem xJv {w : World} {v : Value} {T : List (Tk × Int)} (hv : RowZ w v T) (hl : T.length ≤ 140737488355328) (hT : Tb w) (p : Nat) (hp : p < 9223372036854775808) :
 Calls Tryz.prog 161 #[v, .int .i64 (p : Int)] w (RdP w T (rdE 40 (zQb T) p)) := by
 obtain ⟨ma, c0, he, _⟩ := hv.row
 subst he
 have hb := xXa (w := w) (ma := ma) (c0 := c0) (N := T.length) (p := (p : Int))
 have hX := ex_any 40 (Nat.le_refl _) _ (w.heap.size + 1) (.slice ma T.length c0) T p 0 (by omega) (rd_new hv hl (by omega) (by omega)) (hT.of hb) (fun hg => by have := hT.lt hg; omega)
 cases hR : rdE 40 (zQb T) p with
 | er c q =>
  rw [hR] at hX
  have := jZk _ _ _ _ _ hR
  exact read_er (by omega) hX hv
 | ok x q =>
  rw [hR] at hX
  exact read_ok hX hv
end Go.Proofs.YtfbjljcmmbdhkaaGreatDoor
