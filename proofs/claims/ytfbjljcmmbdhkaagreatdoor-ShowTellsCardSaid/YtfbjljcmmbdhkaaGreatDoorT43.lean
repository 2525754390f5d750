/- Contract of the document's form: the walk. -/
import Derived.Test.YtfbjljcmmbdhkaaGreatDoorT42
namespace Go.Proofs.YtfbjljcmmbdhkaaGreatDoor
set_option linter.unusedVariables false
set_option linter.unusedSimpArgs false
set_option maxRecDepth 100000
set_option maxHeartbeats 200000000
open Go.ChangeShapes Go.WideShapes Go.ChangeAt Go.RowKit
theorem sevenR {c0 c1 c2 c3 c4 c5 c6 : Value} {w : World} {g : Nat} (h : rowG #[c0, c1, c2, c3, c4, c5, c6] w g) : w.cell? ⟨g, 0, none⟩ = some c0 ∧ w.cell? ⟨g, 1, none⟩ = some c1 ∧ w.cell? ⟨g, 2, none⟩ = some c2 ∧ w.cell? ⟨g, 3, none⟩ = some c3 ∧ w.cell? ⟨g, 4, none⟩ = some c4 ∧ w.cell? ⟨g, 5, none⟩ = some c5 ∧ w.cell? ⟨g, 6, none⟩ = some c6 ∧ (∀ i, w.frozen? ⟨g, i, none⟩ = false) ∧ g < w.heap.size := ⟨h.1 0 (by simp), h.1 1 (by simp), h.1 2 (by simp), h.1 3 (by simp), h.1 4 (by simp), h.1 5 (by simp), h.1 6 (by simp), h.2.1, h.2.2⟩
theorem frm_core (k : Nat) (nm fr : List UInt8) (sec mu : Bool) (xx xa xb xl : Option Addr) (nx na nb nl xc xd xe xf : Nat) (P R cn cm cd ne0 : Bool) (ne : Int) (dn df ds dm db dl is : Bool) (w : World)
 (hx8 : nx ≤ 140737488355328) (ha8 : na ≤ 140737488355328)
 (hNe : ∀ x, Calls Tryz.prog 74 #[.int .u8 (k : Int)] x fun r w' => r = .returned (.tuple #[.agg #[.int .i64 ne, .bool dn, .bool df, .bool ds, .bool dm, .bool db, .bool dl], .bool is]) ∧ Below x.heap.size x w')
 (hNf : ∀ x, Calls Tryz.prog 75 #[.string (str fr), .bool df] x fun r w' => r = .returned (.bool cn) ∧ Below x.heap.size x w')
 (hNn : ∀ x, Calls Tryz.prog 75 #[.string (str nm), .bool dn] x fun r w' => r = .returned (.bool cm) ∧ Below x.heap.size x w')
 (hNd : ∀ x, Calls Tryz.prog 50 #[.string (str nm)] x fun r w' => r = .returned (.bool cd) ∧ Below x.heap.size x w')
 (hE1 : ∀ x, Below w.heap.size w x → Calls Tryz.prog 51 #[.slice xx nx xc, .int .i64 (nx : Int)] x fun r w' => r = .returned (.bool P) ∧ Below x.heap.size x w')
 (hE2 : ∀ x, Below w.heap.size w x → Calls Tryz.prog 51 #[.slice xx nx xc, .int .i64 ne] x fun r w' => r = .returned (.bool (P && ne0)) ∧ Below x.heap.size x w')
 (hNs : ∀ x, Below w.heap.size w x → Calls Tryz.prog 76 #[.slice xa na xd] x fun r w' => r = .returned (.bool R) ∧ Below x.heap.size x w')
 (he0 : ((str nm).toList.isEmpty) = decide (nm = [])) :
 Calls Tryz.prog 49 #[.agg #[.int .u8 (k : Int), .string (str nm), .string (str fr), .bool sec, .bool mu, .slice xx nx xc, .slice xa na xd, .slice xb nb xe, .slice xl nl xf]] w fun r w' => r = .returned (.bool (if (!is || (sec && !ds) || (mu && !dm) || (decide (0 < nb) && !db) || (decide (0 < nl) && !dl) || !cn) = true then false else if k = 11 then (decide (nm = []) || cd) && (P && decide (nx ≤ 8) && (R && decide (na ≤ 8))) else cm && (decide (na = 0) && (P && ne0)))) ∧ Below w.heap.size w w' := by
 have hFF := rowG_at #[.int .u8 (k : Int), .string (str nm), .string (str fr), .bool sec, .bool mu, .slice xx nx xc, .slice xa na xd, .slice xb nb xe, .slice xl nl xf] 52 w w.heap.size rfl
 have hun : undef = Value.tuple #[] := rfl
 obtain ⟨W, hW⟩ : ∃ W, w.alloc (.cells #[.int .u8 (k : Int), .string (str nm), .string (str fr), .bool sec, .bool mu, .slice xx nx xc, .slice xa na xd, .slice xb nb xe, .slice xl nl xf] 52) = W := ⟨_, rfl⟩
 have hBW : Below w.heap.size w W := by rw [← hW]; exact aB (Below.refl _ _) _
 rw [hW] at hFF
 obtain ⟨z0, z1, z2, z3, z4, z5, z6, z7, z8, zf, zl⟩ := nine hFF
 clear hun
 obtain ⟨Bb, hBb⟩ : ∃ Bb, Bb = (!is || (sec && !ds) || (mu && !dm) || (decide (0 < nb) && !db) || (decide (0 < nl) && !dl) || !cn) := ⟨_, rfl⟩
 rw [← hBb]
 have HBb := Lib.hid hBb
 clear hBb
 go_enter Tryz.func49, Tryz.ntmps49
 go_upto_region 2 with (go_at_call 74; ((with_reducible refine (hNe _).mono ?_); (rintro e w1 ⟨rfl, hb1⟩)))
 have hF1 := rowG_alloc (rowG_b hFF hb1) (.cells #[.int .i64 ne, .bool dn, .bool df, .bool ds, .bool dm, .bool db, .bool dl] 131)
 have hN1 := rowG_at #[.int .i64 ne, .bool dn, .bool df, .bool ds, .bool dm, .bool db, .bool dl] 131 w1 w1.heap.size rfl
 obtain ⟨W2, hW2⟩ : ∃ W2, w1.alloc (.cells #[.int .i64 ne, .bool dn, .bool df, .bool ds, .bool dm, .bool db, .bool dl] 131) = W2 := ⟨_, rfl⟩
 obtain ⟨T, hT⟩ : ∃ T, w1.heap.size = T := ⟨_, rfl⟩
 have hB2 : Below w.heap.size w W2 := by rw [← hW2]; exact aB (tr hBW hb1) _
 rw [hW2] at hF1 hN1 ⊢
 rw [hT] at hN1 ⊢
 clear hW2 hT hFF hW z0 z1 z2 z3 z4 z5 z6 z7 z8 zf zl
 obtain ⟨z0, z1, z2, z3, z4, z5, z6, z7, z8, zf, zl⟩ := nine hF1
 obtain ⟨y0, y1, y2, y3, y4, y5, y6, yf, yl⟩ := sevenR hN1
 go_cut [60] from 11 to 114 (fun cc wc => cc = .bool Bb ∧ Below W2.heap.size W2 wc)
 case first =>
  clear hNe hNn hNd hE1 hE2 hNs he0 hx8 ha8
  have hun : undef = Value.tuple #[] := rfl
  cases is
  ·skip
   go_wp2
   go_meet
   case rel => exact ⟨by rw [HBb.out]; first | rfl | (simp; done) | (simp; omega) | (simp [*]; done), Below.refl _ _⟩
  ·skip
   cases sec
   ·skip
    cases mu
    ·skip
     by_cases hp1 : 0 < nb
     ·have hq1 : (0 : Int) < (nb : Int) := by omega
      cases db
      ·skip
       go_wp2
       go_meet
       case rel => exact ⟨by rw [HBb.out]; first | rfl | (simp; done) | (simp; omega) | (simp [*]; done), Below.refl _ _⟩
      ·skip
       by_cases hp2 : 0 < nl
       ·have hq2 : (0 : Int) < (nl : Int) := by omega
        cases dl
        ·skip
         go_wp2
         go_meet
         case rel => exact ⟨by rw [HBb.out]; first | rfl | (simp; done) | (simp; omega) | (simp [*]; done), Below.refl _ _⟩
        ·skip
         cases cn
         ·go_wp2_with (go_at_call 75; ((with_reducible refine (hNf _).mono ?_); (rintro e v1 ⟨rfl, hv1⟩)))
          go_meet
          case rel => exact ⟨by rw [HBb.out]; first | rfl | (simp; done) | (simp; omega) | (simp [hp1, hp2]), hv1⟩
         ·go_wp2_with (go_at_call 75; ((with_reducible refine (hNf _).mono ?_); (rintro e v1 ⟨rfl, hv1⟩)))
          go_meet
          case rel => exact ⟨by rw [HBb.out]; first | rfl | (simp; done) | (simp; omega) | (simp [hp1, hp2]), hv1⟩
       ·have hq2 : ¬ (0 : Int) < (nl : Int) := by omega
        cases cn
        ·go_wp2_with (go_at_call 75; ((with_reducible refine (hNf _).mono ?_); (rintro e v1 ⟨rfl, hv1⟩)))
         go_meet
         case rel => exact ⟨by rw [HBb.out]; first | rfl | (simp; done) | (simp; omega) | (simp [hp1, hp2]), hv1⟩
        ·go_wp2_with (go_at_call 75; ((with_reducible refine (hNf _).mono ?_); (rintro e v1 ⟨rfl, hv1⟩)))
         go_meet
         case rel => exact ⟨by rw [HBb.out]; first | rfl | (simp; done) | (simp; omega) | (simp [hp1, hp2]), hv1⟩
     ·have hq1 : ¬ (0 : Int) < (nb : Int) := by omega
      by_cases hp2 : 0 < nl
      ·have hq2 : (0 : Int) < (nl : Int) := by omega
       cases dl
       ·skip
        go_wp2
        go_meet
        case rel => exact ⟨by rw [HBb.out]; first | rfl | (simp; done) | (simp; omega) | (simp [*]; done), Below.refl _ _⟩
       ·skip
        cases cn
        ·go_wp2_with (go_at_call 75; ((with_reducible refine (hNf _).mono ?_); (rintro e v1 ⟨rfl, hv1⟩)))
         go_meet
         case rel => exact ⟨by rw [HBb.out]; first | rfl | (simp; done) | (simp; omega) | (simp [hp1, hp2]), hv1⟩
        ·go_wp2_with (go_at_call 75; ((with_reducible refine (hNf _).mono ?_); (rintro e v1 ⟨rfl, hv1⟩)))
         go_meet
         case rel => exact ⟨by rw [HBb.out]; first | rfl | (simp; done) | (simp; omega) | (simp [hp1, hp2]), hv1⟩
      ·have hq2 : ¬ (0 : Int) < (nl : Int) := by omega
       cases cn
       ·go_wp2_with (go_at_call 75; ((with_reducible refine (hNf _).mono ?_); (rintro e v1 ⟨rfl, hv1⟩)))
        go_meet
        case rel => exact ⟨by rw [HBb.out]; first | rfl | (simp; done) | (simp; omega) | (simp [hp1, hp2]), hv1⟩
       ·go_wp2_with (go_at_call 75; ((with_reducible refine (hNf _).mono ?_); (rintro e v1 ⟨rfl, hv1⟩)))
        go_meet
        case rel => exact ⟨by rw [HBb.out]; first | rfl | (simp; done) | (simp; omega) | (simp [hp1, hp2]), hv1⟩
    ·cases dm
     ·skip
      go_wp2
      go_meet
      case rel => exact ⟨by rw [HBb.out]; first | rfl | (simp; done) | (simp; omega) | (simp [*]; done), Below.refl _ _⟩
     ·skip
      by_cases hp1 : 0 < nb
      ·have hq1 : (0 : Int) < (nb : Int) := by omega
       cases db
       ·skip
        go_wp2
        go_meet
        case rel => exact ⟨by rw [HBb.out]; first | rfl | (simp; done) | (simp; omega) | (simp [*]; done), Below.refl _ _⟩
       ·skip
        by_cases hp2 : 0 < nl
        ·have hq2 : (0 : Int) < (nl : Int) := by omega
         cases dl
         ·skip
          go_wp2
          go_meet
          case rel => exact ⟨by rw [HBb.out]; first | rfl | (simp; done) | (simp; omega) | (simp [*]; done), Below.refl _ _⟩
         ·skip
          cases cn
          ·go_wp2_with (go_at_call 75; ((with_reducible refine (hNf _).mono ?_); (rintro e v1 ⟨rfl, hv1⟩)))
           go_meet
           case rel => exact ⟨by rw [HBb.out]; first | rfl | (simp; done) | (simp; omega) | (simp [hp1, hp2]), hv1⟩
          ·go_wp2_with (go_at_call 75; ((with_reducible refine (hNf _).mono ?_); (rintro e v1 ⟨rfl, hv1⟩)))
           go_meet
           case rel => exact ⟨by rw [HBb.out]; first | rfl | (simp; done) | (simp; omega) | (simp [hp1, hp2]), hv1⟩
        ·have hq2 : ¬ (0 : Int) < (nl : Int) := by omega
         cases cn
         ·go_wp2_with (go_at_call 75; ((with_reducible refine (hNf _).mono ?_); (rintro e v1 ⟨rfl, hv1⟩)))
          go_meet
          case rel => exact ⟨by rw [HBb.out]; first | rfl | (simp; done) | (simp; omega) | (simp [hp1, hp2]), hv1⟩
         ·go_wp2_with (go_at_call 75; ((with_reducible refine (hNf _).mono ?_); (rintro e v1 ⟨rfl, hv1⟩)))
          go_meet
          case rel => exact ⟨by rw [HBb.out]; first | rfl | (simp; done) | (simp; omega) | (simp [hp1, hp2]), hv1⟩
      ·have hq1 : ¬ (0 : Int) < (nb : Int) := by omega
       by_cases hp2 : 0 < nl
       ·have hq2 : (0 : Int) < (nl : Int) := by omega
        cases dl
        ·skip
         go_wp2
         go_meet
         case rel => exact ⟨by rw [HBb.out]; first | rfl | (simp; done) | (simp; omega) | (simp [*]; done), Below.refl _ _⟩
        ·skip
         cases cn
         ·go_wp2_with (go_at_call 75; ((with_reducible refine (hNf _).mono ?_); (rintro e v1 ⟨rfl, hv1⟩)))
          go_meet
          case rel => exact ⟨by rw [HBb.out]; first | rfl | (simp; done) | (simp; omega) | (simp [hp1, hp2]), hv1⟩
         ·go_wp2_with (go_at_call 75; ((with_reducible refine (hNf _).mono ?_); (rintro e v1 ⟨rfl, hv1⟩)))
          go_meet
          case rel => exact ⟨by rw [HBb.out]; first | rfl | (simp; done) | (simp; omega) | (simp [hp1, hp2]), hv1⟩
       ·have hq2 : ¬ (0 : Int) < (nl : Int) := by omega
        cases cn
        ·go_wp2_with (go_at_call 75; ((with_reducible refine (hNf _).mono ?_); (rintro e v1 ⟨rfl, hv1⟩)))
         go_meet
         case rel => exact ⟨by rw [HBb.out]; first | rfl | (simp; done) | (simp; omega) | (simp [hp1, hp2]), hv1⟩
        ·go_wp2_with (go_at_call 75; ((with_reducible refine (hNf _).mono ?_); (rintro e v1 ⟨rfl, hv1⟩)))
         go_meet
         case rel => exact ⟨by rw [HBb.out]; first | rfl | (simp; done) | (simp; omega) | (simp [hp1, hp2]), hv1⟩
   ·cases ds
    ·skip
     go_wp2
     go_meet
     case rel => exact ⟨by rw [HBb.out]; first | rfl | (simp; done) | (simp; omega) | (simp [*]; done), Below.refl _ _⟩
    ·skip
     cases mu
     ·skip
      by_cases hp1 : 0 < nb
      ·have hq1 : (0 : Int) < (nb : Int) := by omega
       cases db
       ·skip
        go_wp2
        go_meet
        case rel => exact ⟨by rw [HBb.out]; first | rfl | (simp; done) | (simp; omega) | (simp [*]; done), Below.refl _ _⟩
       ·skip
        by_cases hp2 : 0 < nl
        ·have hq2 : (0 : Int) < (nl : Int) := by omega
         cases dl
         ·skip
          go_wp2
          go_meet
          case rel => exact ⟨by rw [HBb.out]; first | rfl | (simp; done) | (simp; omega) | (simp [*]; done), Below.refl _ _⟩
         ·skip
          cases cn
          ·go_wp2_with (go_at_call 75; ((with_reducible refine (hNf _).mono ?_); (rintro e v1 ⟨rfl, hv1⟩)))
           go_meet
           case rel => exact ⟨by rw [HBb.out]; first | rfl | (simp; done) | (simp; omega) | (simp [hp1, hp2]), hv1⟩
          ·go_wp2_with (go_at_call 75; ((with_reducible refine (hNf _).mono ?_); (rintro e v1 ⟨rfl, hv1⟩)))
           go_meet
           case rel => exact ⟨by rw [HBb.out]; first | rfl | (simp; done) | (simp; omega) | (simp [hp1, hp2]), hv1⟩
        ·have hq2 : ¬ (0 : Int) < (nl : Int) := by omega
         cases cn
         ·go_wp2_with (go_at_call 75; ((with_reducible refine (hNf _).mono ?_); (rintro e v1 ⟨rfl, hv1⟩)))
          go_meet
          case rel => exact ⟨by rw [HBb.out]; first | rfl | (simp; done) | (simp; omega) | (simp [hp1, hp2]), hv1⟩
         ·go_wp2_with (go_at_call 75; ((with_reducible refine (hNf _).mono ?_); (rintro e v1 ⟨rfl, hv1⟩)))
          go_meet
          case rel => exact ⟨by rw [HBb.out]; first | rfl | (simp; done) | (simp; omega) | (simp [hp1, hp2]), hv1⟩
      ·have hq1 : ¬ (0 : Int) < (nb : Int) := by omega
       by_cases hp2 : 0 < nl
       ·have hq2 : (0 : Int) < (nl : Int) := by omega
        cases dl
        ·skip
         go_wp2
         go_meet
         case rel => exact ⟨by rw [HBb.out]; first | rfl | (simp; done) | (simp; omega) | (simp [*]; done), Below.refl _ _⟩
        ·skip
         cases cn
         ·go_wp2_with (go_at_call 75; ((with_reducible refine (hNf _).mono ?_); (rintro e v1 ⟨rfl, hv1⟩)))
          go_meet
          case rel => exact ⟨by rw [HBb.out]; first | rfl | (simp; done) | (simp; omega) | (simp [hp1, hp2]), hv1⟩
         ·go_wp2_with (go_at_call 75; ((with_reducible refine (hNf _).mono ?_); (rintro e v1 ⟨rfl, hv1⟩)))
          go_meet
          case rel => exact ⟨by rw [HBb.out]; first | rfl | (simp; done) | (simp; omega) | (simp [hp1, hp2]), hv1⟩
       ·have hq2 : ¬ (0 : Int) < (nl : Int) := by omega
        cases cn
        ·go_wp2_with (go_at_call 75; ((with_reducible refine (hNf _).mono ?_); (rintro e v1 ⟨rfl, hv1⟩)))
         go_meet
         case rel => exact ⟨by rw [HBb.out]; first | rfl | (simp; done) | (simp; omega) | (simp [hp1, hp2]), hv1⟩
        ·go_wp2_with (go_at_call 75; ((with_reducible refine (hNf _).mono ?_); (rintro e v1 ⟨rfl, hv1⟩)))
         go_meet
         case rel => exact ⟨by rw [HBb.out]; first | rfl | (simp; done) | (simp; omega) | (simp [hp1, hp2]), hv1⟩
     ·cases dm
      ·skip
       go_wp2
       go_meet
       case rel => exact ⟨by rw [HBb.out]; first | rfl | (simp; done) | (simp; omega) | (simp [*]; done), Below.refl _ _⟩
      ·skip
       by_cases hp1 : 0 < nb
       ·have hq1 : (0 : Int) < (nb : Int) := by omega
        cases db
        ·skip
         go_wp2
         go_meet
         case rel => exact ⟨by rw [HBb.out]; first | rfl | (simp; done) | (simp; omega) | (simp [*]; done), Below.refl _ _⟩
        ·skip
         by_cases hp2 : 0 < nl
         ·have hq2 : (0 : Int) < (nl : Int) := by omega
          cases dl
          ·skip
           go_wp2
           go_meet
           case rel => exact ⟨by rw [HBb.out]; first | rfl | (simp; done) | (simp; omega) | (simp [*]; done), Below.refl _ _⟩
          ·skip
           cases cn
           ·go_wp2_with (go_at_call 75; ((with_reducible refine (hNf _).mono ?_); (rintro e v1 ⟨rfl, hv1⟩)))
            go_meet
            case rel => exact ⟨by rw [HBb.out]; first | rfl | (simp; done) | (simp; omega) | (simp [hp1, hp2]), hv1⟩
           ·go_wp2_with (go_at_call 75; ((with_reducible refine (hNf _).mono ?_); (rintro e v1 ⟨rfl, hv1⟩)))
            go_meet
            case rel => exact ⟨by rw [HBb.out]; first | rfl | (simp; done) | (simp; omega) | (simp [hp1, hp2]), hv1⟩
         ·have hq2 : ¬ (0 : Int) < (nl : Int) := by omega
          cases cn
          ·go_wp2_with (go_at_call 75; ((with_reducible refine (hNf _).mono ?_); (rintro e v1 ⟨rfl, hv1⟩)))
           go_meet
           case rel => exact ⟨by rw [HBb.out]; first | rfl | (simp; done) | (simp; omega) | (simp [hp1, hp2]), hv1⟩
          ·go_wp2_with (go_at_call 75; ((with_reducible refine (hNf _).mono ?_); (rintro e v1 ⟨rfl, hv1⟩)))
           go_meet
           case rel => exact ⟨by rw [HBb.out]; first | rfl | (simp; done) | (simp; omega) | (simp [hp1, hp2]), hv1⟩
       ·have hq1 : ¬ (0 : Int) < (nb : Int) := by omega
        by_cases hp2 : 0 < nl
        ·have hq2 : (0 : Int) < (nl : Int) := by omega
         cases dl
         ·skip
          go_wp2
          go_meet
          case rel => exact ⟨by rw [HBb.out]; first | rfl | (simp; done) | (simp; omega) | (simp [*]; done), Below.refl _ _⟩
         ·skip
          cases cn
          ·go_wp2_with (go_at_call 75; ((with_reducible refine (hNf _).mono ?_); (rintro e v1 ⟨rfl, hv1⟩)))
           go_meet
           case rel => exact ⟨by rw [HBb.out]; first | rfl | (simp; done) | (simp; omega) | (simp [hp1, hp2]), hv1⟩
          ·go_wp2_with (go_at_call 75; ((with_reducible refine (hNf _).mono ?_); (rintro e v1 ⟨rfl, hv1⟩)))
           go_meet
           case rel => exact ⟨by rw [HBb.out]; first | rfl | (simp; done) | (simp; omega) | (simp [hp1, hp2]), hv1⟩
        ·have hq2 : ¬ (0 : Int) < (nl : Int) := by omega
         cases cn
         ·go_wp2_with (go_at_call 75; ((with_reducible refine (hNf _).mono ?_); (rintro e v1 ⟨rfl, hv1⟩)))
          go_meet
          case rel => exact ⟨by rw [HBb.out]; first | rfl | (simp; done) | (simp; omega) | (simp [hp1, hp2]), hv1⟩
         ·go_wp2_with (go_at_call 75; ((with_reducible refine (hNf _).mono ?_); (rintro e v1 ⟨rfl, hv1⟩)))
          go_meet
          case rel => exact ⟨by rw [HBb.out]; first | rfl | (simp; done) | (simp; omega) | (simp [hp1, hp2]), hv1⟩
 case rest =>
  obtain ⟨rfl, hbc⟩ := hcut
  have hBx := tr hB2 hbc
  have hF3 := rowG_b hF1 hbc
  have hN3 := rowG_b hN1 hbc
  clear z0 z1 z2 z3 z4 z5 z6 z7 z8 zf zl y0 y1 y2 y3 y4 y5 y6 yf yl hF1 hN1 hbc hB2 hNe hNf HBb
  obtain ⟨z0, z1, z2, z3, z4, z5, z6, z7, z8, zf, zl⟩ := nine hF3
  cases Bb
  rotate_left
  ·go_wp2
   go_ret
   exact ⟨rfl, hBx⟩
  have hun : undef = Value.tuple #[] := rfl
  by_cases h11 : k = 11
  ·have hk11 : ((k : Int) == 11) = true := by simp only [beq_iff_eq]; omega
   clear hN3 hNn hE2
   have H11 := Lib.hid h11
   clear h11
   by_cases hnm : nm = []
   ·rw [decide_eq_true hnm] at he0
    have HNM := Lib.hid hnm
    clear hnm
    have hBs := hBx
    have hFs := hF3
    cases P
    ·skip
     go_wp2_with (go_at_call 51; ((with_reducible refine (hE1 _ hBs).mono ?_); (rintro e v1 ⟨rfl, hv1⟩); (have hBt := tr hBs hv1); (have hFt := rowG_b hFs hv1); (clear z0 z1 z2 z3 z4 z5 z6 z7 z8 zf zl); (obtain ⟨z0, z1, z2, z3, z4, z5, z6, z7, z8, zf, zl⟩ := nine hFt)))
     go_ret
     have h11 := H11.out
     try have hnm := HNM.out
     exact ⟨by first | rfl | (simp [*]; done) | (simp; done), hBt⟩
    by_cases hn8 : nx ≤ 8
    rotate_left
    ·have hi8 : ¬ (nx : Int) ≤ 8 := by omega
     go_wp2_with (go_at_call 51; ((with_reducible refine (hE1 _ hBs).mono ?_); (rintro e v1 ⟨rfl, hv1⟩); (have hBt := tr hBs hv1); (have hFt := rowG_b hFs hv1); (clear z0 z1 z2 z3 z4 z5 z6 z7 z8 zf zl); (obtain ⟨z0, z1, z2, z3, z4, z5, z6, z7, z8, zf, zl⟩ := nine hFt)))
     go_ret
     have h11 := H11.out
     try have hnm := HNM.out
     exact ⟨by first | rfl | (simp [*]; done) | (simp; done), hBt⟩
    have hi8 : (nx : Int) ≤ 8 := by omega
    cases R
    ·skip
     go_wp2_with (first | (go_at_call 51; ((with_reducible refine (hE1 _ hBs).mono ?_); (rintro e v1 ⟨rfl, hv1⟩); (have hBt := tr hBs hv1); (have hFt := rowG_b hFs hv1); (clear z0 z1 z2 z3 z4 z5 z6 z7 z8 zf zl); (obtain ⟨z0, z1, z2, z3, z4, z5, z6, z7, z8, zf, zl⟩ := nine hFt))) | (go_at_call 76; ((with_reducible refine (hNs _ hBt).mono ?_); (rintro e v2 ⟨rfl, hv2⟩); (have hBu := tr hBt hv2); (have hFu := rowG_b hFt hv2); (clear z0 z1 z2 z3 z4 z5 z6 z7 z8 zf zl); (obtain ⟨z0, z1, z2, z3, z4, z5, z6, z7, z8, zf, zl⟩ := nine hFu))))
     go_ret
     have h11 := H11.out
     try have hnm := HNM.out
     exact ⟨by first | rfl | (simp [*]; done) | (simp; done), hBu⟩
    by_cases hm8 : na ≤ 8
    ·have hj8 : (na : Int) ≤ 8 := by omega
     go_wp2_with (first | (go_at_call 51; ((with_reducible refine (hE1 _ hBs).mono ?_); (rintro e v1 ⟨rfl, hv1⟩); (have hBt := tr hBs hv1); (have hFt := rowG_b hFs hv1); (clear z0 z1 z2 z3 z4 z5 z6 z7 z8 zf zl); (obtain ⟨z0, z1, z2, z3, z4, z5, z6, z7, z8, zf, zl⟩ := nine hFt))) | (go_at_call 76; ((with_reducible refine (hNs _ hBt).mono ?_); (rintro e v2 ⟨rfl, hv2⟩); (have hBu := tr hBt hv2); (have hFu := rowG_b hFt hv2); (clear z0 z1 z2 z3 z4 z5 z6 z7 z8 zf zl); (obtain ⟨z0, z1, z2, z3, z4, z5, z6, z7, z8, zf, zl⟩ := nine hFu))))
     go_ret
     have h11 := H11.out
     try have hnm := HNM.out
     exact ⟨by first | rfl | (simp [*]; done) | (simp; done), hBu⟩
    ·have hj8 : ¬ (na : Int) ≤ 8 := by omega
     go_wp2_with (first | (go_at_call 51; ((with_reducible refine (hE1 _ hBs).mono ?_); (rintro e v1 ⟨rfl, hv1⟩); (have hBt := tr hBs hv1); (have hFt := rowG_b hFs hv1); (clear z0 z1 z2 z3 z4 z5 z6 z7 z8 zf zl); (obtain ⟨z0, z1, z2, z3, z4, z5, z6, z7, z8, zf, zl⟩ := nine hFt))) | (go_at_call 76; ((with_reducible refine (hNs _ hBt).mono ?_); (rintro e v2 ⟨rfl, hv2⟩); (have hBu := tr hBt hv2); (have hFu := rowG_b hFt hv2); (clear z0 z1 z2 z3 z4 z5 z6 z7 z8 zf zl); (obtain ⟨z0, z1, z2, z3, z4, z5, z6, z7, z8, zf, zl⟩ := nine hFu))))
     go_ret
     have h11 := H11.out
     try have hnm := HNM.out
     exact ⟨by first | rfl | (simp [*]; done) | (simp; done), hBu⟩
   ·rw [decide_eq_false hnm] at he0
    have HNM := Lib.hid hnm
    clear hnm
    cases cd
    ·skip
     go_wp2_with (go_at_call 50; ((with_reducible refine (hNd _).mono ?_); (rintro e v0 ⟨rfl, hv0⟩); (have hBs := tr hBx hv0); (have hFs := rowG_b hF3 hv0); (clear z0 z1 z2 z3 z4 z5 z6 z7 z8 zf zl); (obtain ⟨z0, z1, z2, z3, z4, z5, z6, z7, z8, zf, zl⟩ := nine hFs)))
     go_ret
     have h11 := H11.out
     try have hnm := HNM.out
     exact ⟨by first | rfl | (simp [*]; done) | (simp; done), hBs⟩
    cases P
    ·skip
     go_wp2_with (first | (go_at_call 50; ((with_reducible refine (hNd _).mono ?_); (rintro e v0 ⟨rfl, hv0⟩); (have hBs := tr hBx hv0); (have hFs := rowG_b hF3 hv0); (clear z0 z1 z2 z3 z4 z5 z6 z7 z8 zf zl); (obtain ⟨z0, z1, z2, z3, z4, z5, z6, z7, z8, zf, zl⟩ := nine hFs))) | (go_at_call 51; ((with_reducible refine (hE1 _ hBs).mono ?_); (rintro e v1 ⟨rfl, hv1⟩); (have hBt := tr hBs hv1); (have hFt := rowG_b hFs hv1); (clear z0 z1 z2 z3 z4 z5 z6 z7 z8 zf zl); (obtain ⟨z0, z1, z2, z3, z4, z5, z6, z7, z8, zf, zl⟩ := nine hFt))))
     go_ret
     have h11 := H11.out
     try have hnm := HNM.out
     exact ⟨by first | rfl | (simp [*]; done) | (simp; done), hBt⟩
    by_cases hn8 : nx ≤ 8
    rotate_left
    ·have hi8 : ¬ (nx : Int) ≤ 8 := by omega
     go_wp2_with (first | (go_at_call 50; ((with_reducible refine (hNd _).mono ?_); (rintro e v0 ⟨rfl, hv0⟩); (have hBs := tr hBx hv0); (have hFs := rowG_b hF3 hv0); (clear z0 z1 z2 z3 z4 z5 z6 z7 z8 zf zl); (obtain ⟨z0, z1, z2, z3, z4, z5, z6, z7, z8, zf, zl⟩ := nine hFs))) | (go_at_call 51; ((with_reducible refine (hE1 _ hBs).mono ?_); (rintro e v1 ⟨rfl, hv1⟩); (have hBt := tr hBs hv1); (have hFt := rowG_b hFs hv1); (clear z0 z1 z2 z3 z4 z5 z6 z7 z8 zf zl); (obtain ⟨z0, z1, z2, z3, z4, z5, z6, z7, z8, zf, zl⟩ := nine hFt))))
     go_ret
     have h11 := H11.out
     try have hnm := HNM.out
     exact ⟨by first | rfl | (simp [*]; done) | (simp; done), hBt⟩
    have hi8 : (nx : Int) ≤ 8 := by omega
    cases R
    ·skip
     go_wp2_with (first | (go_at_call 50; ((with_reducible refine (hNd _).mono ?_); (rintro e v0 ⟨rfl, hv0⟩); (have hBs := tr hBx hv0); (have hFs := rowG_b hF3 hv0); (clear z0 z1 z2 z3 z4 z5 z6 z7 z8 zf zl); (obtain ⟨z0, z1, z2, z3, z4, z5, z6, z7, z8, zf, zl⟩ := nine hFs))) | (go_at_call 51; ((with_reducible refine (hE1 _ hBs).mono ?_); (rintro e v1 ⟨rfl, hv1⟩); (have hBt := tr hBs hv1); (have hFt := rowG_b hFs hv1); (clear z0 z1 z2 z3 z4 z5 z6 z7 z8 zf zl); (obtain ⟨z0, z1, z2, z3, z4, z5, z6, z7, z8, zf, zl⟩ := nine hFt))) | (go_at_call 76; ((with_reducible refine (hNs _ hBt).mono ?_); (rintro e v2 ⟨rfl, hv2⟩); (have hBu := tr hBt hv2); (have hFu := rowG_b hFt hv2); (clear z0 z1 z2 z3 z4 z5 z6 z7 z8 zf zl); (obtain ⟨z0, z1, z2, z3, z4, z5, z6, z7, z8, zf, zl⟩ := nine hFu))))
     go_ret
     have h11 := H11.out
     try have hnm := HNM.out
     exact ⟨by first | rfl | (simp [*]; done) | (simp; done), hBu⟩
    by_cases hm8 : na ≤ 8
    ·have hj8 : (na : Int) ≤ 8 := by omega
     go_wp2_with (first | (go_at_call 50; ((with_reducible refine (hNd _).mono ?_); (rintro e v0 ⟨rfl, hv0⟩); (have hBs := tr hBx hv0); (have hFs := rowG_b hF3 hv0); (clear z0 z1 z2 z3 z4 z5 z6 z7 z8 zf zl); (obtain ⟨z0, z1, z2, z3, z4, z5, z6, z7, z8, zf, zl⟩ := nine hFs))) | (go_at_call 51; ((with_reducible refine (hE1 _ hBs).mono ?_); (rintro e v1 ⟨rfl, hv1⟩); (have hBt := tr hBs hv1); (have hFt := rowG_b hFs hv1); (clear z0 z1 z2 z3 z4 z5 z6 z7 z8 zf zl); (obtain ⟨z0, z1, z2, z3, z4, z5, z6, z7, z8, zf, zl⟩ := nine hFt))) | (go_at_call 76; ((with_reducible refine (hNs _ hBt).mono ?_); (rintro e v2 ⟨rfl, hv2⟩); (have hBu := tr hBt hv2); (have hFu := rowG_b hFt hv2); (clear z0 z1 z2 z3 z4 z5 z6 z7 z8 zf zl); (obtain ⟨z0, z1, z2, z3, z4, z5, z6, z7, z8, zf, zl⟩ := nine hFu))))
     go_ret
     have h11 := H11.out
     try have hnm := HNM.out
     exact ⟨by first | rfl | (simp [*]; done) | (simp; done), hBu⟩
    ·have hj8 : ¬ (na : Int) ≤ 8 := by omega
     go_wp2_with (first | (go_at_call 50; ((with_reducible refine (hNd _).mono ?_); (rintro e v0 ⟨rfl, hv0⟩); (have hBs := tr hBx hv0); (have hFs := rowG_b hF3 hv0); (clear z0 z1 z2 z3 z4 z5 z6 z7 z8 zf zl); (obtain ⟨z0, z1, z2, z3, z4, z5, z6, z7, z8, zf, zl⟩ := nine hFs))) | (go_at_call 51; ((with_reducible refine (hE1 _ hBs).mono ?_); (rintro e v1 ⟨rfl, hv1⟩); (have hBt := tr hBs hv1); (have hFt := rowG_b hFs hv1); (clear z0 z1 z2 z3 z4 z5 z6 z7 z8 zf zl); (obtain ⟨z0, z1, z2, z3, z4, z5, z6, z7, z8, zf, zl⟩ := nine hFt))) | (go_at_call 76; ((with_reducible refine (hNs _ hBt).mono ?_); (rintro e v2 ⟨rfl, hv2⟩); (have hBu := tr hBt hv2); (have hFu := rowG_b hFt hv2); (clear z0 z1 z2 z3 z4 z5 z6 z7 z8 zf zl); (obtain ⟨z0, z1, z2, z3, z4, z5, z6, z7, z8, zf, zl⟩ := nine hFu))))
     go_ret
     have h11 := H11.out
     try have hnm := HNM.out
     exact ⟨by first | rfl | (simp [*]; done) | (simp; done), hBu⟩
  ·have hk11 : ((k : Int) == 11) = false := by simp only [beq_eq_false_iff_ne]; omega
   have H11 := Lib.hid h11
   clear h11 hNd hE1 hNs
   obtain ⟨y0, y1, y2, y3, y4, y5, y6, yf, yl⟩ := sevenR hN3
   cases cm
   ·skip
    go_wp2_with (go_at_call 75; ((with_reducible refine (hNn _).mono ?_); (rintro e v0 ⟨rfl, hv0⟩); (have hBs := tr hBx hv0); (have hFs := rowG_b hF3 hv0); (have hNs0 := rowG_b hN3 hv0); (clear z0 z1 z2 z3 z4 z5 z6 z7 z8 zf zl); (obtain ⟨z0, z1, z2, z3, z4, z5, z6, z7, z8, zf, zl⟩ := nine hFs); (clear y0 y1 y2 y3 y4 y5 y6 yf yl); (obtain ⟨y0, y1, y2, y3, y4, y5, y6, yf, yl⟩ := sevenR hNs0)))
    go_ret
    have h11 := H11.out
    try have hnm := HNM.out
    exact ⟨by first | rfl | (simp [*]; done) | (simp; done), hBs⟩
   by_cases hna : na = 0
   rotate_left
   ·have hna0 : ((na : Int) == 0) = false := by simp only [beq_eq_false_iff_ne]; omega
    go_wp2_with (go_at_call 75; ((with_reducible refine (hNn _).mono ?_); (rintro e v0 ⟨rfl, hv0⟩); (have hBs := tr hBx hv0); (have hFs := rowG_b hF3 hv0); (have hNs0 := rowG_b hN3 hv0); (clear z0 z1 z2 z3 z4 z5 z6 z7 z8 zf zl); (obtain ⟨z0, z1, z2, z3, z4, z5, z6, z7, z8, zf, zl⟩ := nine hFs); (clear y0 y1 y2 y3 y4 y5 y6 yf yl); (obtain ⟨y0, y1, y2, y3, y4, y5, y6, yf, yl⟩ := sevenR hNs0)))
    go_ret
    have h11 := H11.out
    try have hnm := HNM.out
    exact ⟨by first | rfl | (simp [*]; done) | (simp; done), hBs⟩
   have hna0 : ((na : Int) == 0) = true := by simp only [beq_iff_eq]; omega
   have HNA := Lib.hid hna
   clear hna
   obtain ⟨pe, hpe⟩ : ∃ pe, pe = (P && ne0) := ⟨_, rfl⟩
   rw [← hpe] at hE2
   have HPE := Lib.hid hpe
   clear hpe
   go_wp2_with (first | (go_at_call 75; ((with_reducible refine (hNn _).mono ?_); (rintro e v0 ⟨rfl, hv0⟩); (have hBs := tr hBx hv0); (have hFs := rowG_b hF3 hv0); (have hNs0 := rowG_b hN3 hv0); (clear z0 z1 z2 z3 z4 z5 z6 z7 z8 zf zl); (obtain ⟨z0, z1, z2, z3, z4, z5, z6, z7, z8, zf, zl⟩ := nine hFs); (clear y0 y1 y2 y3 y4 y5 y6 yf yl); (obtain ⟨y0, y1, y2, y3, y4, y5, y6, yf, yl⟩ := sevenR hNs0))) | (go_at_call 51; ((with_reducible refine (hE2 _ hBs).mono ?_); (rintro e v1 ⟨rfl, hv1⟩); (have hBt := tr hBs hv1))))
   go_ret
   have h11 := H11.out
   have hna := HNA.out
   exact ⟨by rw [HPE.out]; first | (simp [hna]; done) | (simp [hna, h11]; done), hBt⟩
end Go.Proofs.YtfbjljcmmbdhkaaGreatDoor
