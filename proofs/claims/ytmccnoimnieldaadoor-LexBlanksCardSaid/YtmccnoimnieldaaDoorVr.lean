/- LexBlanks' walk. -/
import Derived.Test.YtmccnoimnieldaaDoorVq
namespace Go.Proofs.YtmccnoimnieldaaDoor
open Go.ChangeShapes Go.WideShapes Go.ChangeAt Go.RowKit
set_option linter.unusedVariables false
theorem infoB : (Tryd.prog.info? 5).map (fun i => (i.zero, i.size, i.bytes)) = some (some (.int .u8 0), 1, 1) := by kernel_rfl
def bytV (l : List UInt8) : List Value := l.map fun c => .int .u8 (c.toNat : Int)
theorem bytV_snoc (l : List UInt8) (c : UInt8) : bytV (l ++ [c]) = bytV l ++ [.int .u8 (c.toNat : Int)] := by simp [bytV]
theorem conv_row {w : World} {B : Nat} {v : Value} {l : List UInt8} (h : w.ownsRow B 5 1 v l.length (bytV l)) : (convert 31 9 v).run Tryd.prog w = .ok (.string (str l)) w := by
  rcases h.2 with ⟨rfl, hn⟩ | ⟨g, cap, cur, hv, _⟩
  · have : l = [] := List.length_eq_zero_iff.1 hn
    subst this
    rw [run_convert_bytes_string w 31 9 5 none 0 0 Tryd.underlying31 Tryd.underlying5 Tryd.underlying9]
    rfl
  · subst hv
    refine run_convert_bytes_back (P := Tryd.prog) w 31 9 5 ⟨g, 0, none⟩ cap l Tryd.underlying31 Tryd.underlying5 Tryd.underlying9 (fun j hj => ?_)
    rw [addp, Nat.zero_add, h.cellAt j (by omega)]
    simp [bytV, hj]
theorem full_len {bs full x : List UInt8} (h : bs ++ x = full) (hf : full.length ≤ 2700) : bs.length ≤ 2700 := by
  rw [← h, List.length_append] at hf; omega
set_option maxRecDepth 100000 in
set_option maxHeartbeats 8000000 in
theorem blanks_yes (s : ByteArray) (T : List (Tk × Nat)) (xs : List Nat) (ma : Option Addr) (mc : Nat) (w : World) (hT : Tb w) (hs : s.size ≤ 2048) (hx : xs.length ≤ 200) (hl : lexT s.data.toList = .ok T)
    (hxb : ∀ k (h : k < xs.length), xs.getD k 0 < 256 ∧ ∃ b o, ma = some ⟨b, o, none⟩ ∧ w.cell? ⟨b, o + k, none⟩ = some (.int .u8 ((xs.getD k 0 : Nat) : Int))) :
    Calls Tryd.prog 4 #[.string s, .slice ma xs.length mc] w fun e w' => e = .returned (.bool true) ∧ Below w.heap.size w w' := by
  have hC := cut_row s T w hT hl
  have hsl : s.data.toList.length = s.size := by simp
  have hTl := lex_count _ _ _ _ (lexT_ok hl).2
  rw [hsl] at hTl
  obtain ⟨hfl, T', hl', hbr⟩ := lexT_ins xs hx hs hl
  obtain ⟨full, hfull⟩ : ∃ full, full = ins (bkF xs) s.data.toList 0 (ats T) 0 := ⟨_, rfl⟩
  rw [← hfull] at hfl hl'
  have HFU := Lib.hid hfull
  have hC' := fun w hT => cut_row (str (full ++ [10, 32])) T' w hT (by rw [str_list]; exact hl')
  have hBy := fun v1 v2 w (h1 : RowAt w v1 T) (h2 : RowAt w v2 T') => bare_yes v1 v2 T T' w h1 h2 (by omega) hbr
  have HXB := Lib.hid hxb
  obtain ⟨i0, hi, hz0, hz1, hz2⟩ := info_parts infoB
  obtain ⟨X, hX⟩ : ∃ X, xs.length = X := ⟨_, rfl⟩
  have HX := Lib.hid hX
  rw [hX] at hx ⊢
  clear hl hsl hl' hbr hfull hxb hX
  have hC2 : Calls Tryd.prog 6 #[.string s] w fun e w' => (∃ (b o n c : Nat), e = .returned (.tuple #[.slice (some ⟨b, o, none⟩) n c, .nilIface]) ∧ Hid (n = T.length) ∧ RowAt w' (.slice (some ⟨b, o, none⟩) n c) T ∧ b < w'.heap.size ∧ Hid (∀ i (h : i < T.length), w'.cell? ⟨b, o + i * 4 + 3, none⟩ = some (.int .i64 (T[i].2 : Int)))) ∧ Below w.heap.size w w' :=
    hC.mono fun e w' h => by
      obtain ⟨⟨v, he, hv⟩, hb⟩ := h
      have hv' := hv
      obtain ⟨b, o, n, c, rfl, hn, hlt, hc⟩ := hv.row
      exact ⟨⟨b, o, n, c, he, Lib.hid hn, hv', hlt, Lib.hid fun i hi => (hc i hi).2.2.2⟩, hb⟩
  clear hC
  go_enter Tryd.func4, Tryd.ntmps4
  go_wp2_with (go_at_call 6; ((with_reducible refine hC2.mono ?_); (rintro e w1 ⟨⟨lb, lo, ln, lc, rfl, hln, hr1, hlb, hcs⟩, hb1⟩)))
  clear hC2
  go_loopw [7, 8, 9] (fun r kk ii wr => ∃ (i k : Nat) (bs : List UInt8), i ≤ s.size ∧ ii = .int .i64 i ∧ k ≤ ln ∧ kk = .int .i64 k ∧ wr.ownsRow w1.heap.size 5 1 r bs.length (bytV bs) ∧ Below w1.heap.size w1 wr ∧ Hid (bs ++ ins (bkF xs) (s.data.toList.drop i) i ((ats T).drop k) k = full)) (fun _ _ ii _ => s.size - (intOf ii).toNat)
  case atStart => exact ⟨0, 0, [], Nat.zero_le _, rfl, Nat.zero_le _, rfl, World.ownsRow_nil _ _ _ _, Below.refl _ _, Lib.hid (by rw [HFU.out]; rfl)⟩
  case round =>
    obtain ⟨i, k, bs, hi1, rfl, hk1, rfl, ho, hB, hF⟩ := hrel
    by_cases hlt : i < s.size
    · go_wp2
      go_loopw [7, 8] (fun r kk wr => ∃ (k : Nat) (bs : List UInt8), k ≤ ln ∧ kk = .int .i64 k ∧ wr.ownsRow w1.heap.size 5 1 r bs.length (bytV bs) ∧ Below w1.heap.size w1 wr ∧ Hid (bs ++ ins (bkF xs) (s.data.toList.drop i) i ((ats T).drop k) k = full)) (fun _ kk _ => ln - (intOf kk).toNat)
      case atStart => exact ⟨k, bs, hk1, rfl, ho, hB, hF⟩
      case round =>
        clear ho hB hF hk1
        obtain ⟨k, bs, hk1, rfl, ho, hB, hF⟩ := hrel
        have hbl := full_len hF.out hfl
        have hlb2 : lb < wr.heap.size := Nat.lt_of_lt_of_le hlb hB.size
        by_cases hk2 : k < ln
        · have hkT : k < T.length := by have := hln.out; omega
          have hc3 := stay hB (hcs.out k hkT)
          by_cases he : T[k].2 = i
          · rw [he] at hc3
            have HF2 := Lib.hid (ins_tok hlt hkT he hF.out)
            clear hF he
            go_wp2
            go_loopw [7, 10] (fun r nn wr => ∃ n : Nat, n ≤ 3 ∧ nn = .int .i64 n ∧ wr.ownsRow w1.heap.size 5 1 r (bs ++ (bkF xs k).take n).length (bytV (bs ++ (bkF xs k).take n)) ∧ Below w1.heap.size w1 wr) (fun _ nn _ => 4 - (intOf nn).toNat)
            case atStart => exact ⟨0, by omega, rfl, by simpa using ho, hB⟩
            case round =>
              clear ho hB hc3
              obtain ⟨n, hn3, rfl, ho, hB⟩ := hrel
              have hbl3 : (bs ++ (bkF xs k).take n).length ≤ 2703 := by
                have := bkF_len xs k
                rw [List.length_append, List.length_take]; omega
              obtain ⟨A0, hA0⟩ : ∃ A, A = bs ++ (bkF xs k).take n := ⟨_, rfl⟩
              rw [← hA0] at ho hbl3
              have HA0 := Lib.hid hA0
              clear hA0
              by_cases hkx : k < X
              · obtain ⟨hx256, mb, mo, hma, hmc⟩ := HXB.out k (by rw [HX.out]; exact hkx)
                have hmc' := stay hB (stay hb1 hmc)
                have hmlt := World.block_lt_of_cell? _ _ hmc'
                simp only at hmlt
                clear hmc
                subst hma
                have HTN := fun (hn : n < xs.getD k 0 % 4) => bkF_take xs k n (by rw [HX.out]; exact hkx) hn
                have HTA' := fun (hn : ¬ n < xs.getD k 0 % 4) => bkF_all xs k n (fun h => hn h.2)
                obtain ⟨x, hx0⟩ : ∃ x, xs.getD k 0 = x := ⟨_, rfl⟩
                rw [hx0] at hmc' hx256 HTN HTA'
                clear hx0
                by_cases hn : n < x % 4
                · have e1 : (n : Int) < (x : Int) % 4 := by omega
                  have HTK := Lib.hid (HTN hn)
                  clear HTN HTA'
                  by_cases hp : (x / 4 + n) % 2 = 0
                  · have hp' : ((x : Int) / 4 + (n : Int)) % 2 = 0 := by omega
                    have HPV := Lib.hid (show (if (x / 4 + n) % 2 = 0 then (32 : UInt8) else 10) = 32 from if_pos hp)
                    clear hp
                    go_wp2_with (at_builtin; refine wpList_append_own _ rfl _ _ 31 rfl w1.heap.size 5 i0 _ 1 1 Tryd.underlying31 hi hz0 hz1 hz2 rfl (by decide) _ _ _ rfl (ho.alloc _) ⟨wr.heap.size, 0, none⟩ 1 1 [.int .u8 32] rfl rfl ?cN ?c0 ?c1 ?c2 ?c3 ?_)
                    case cN => exact news_ok [.int .u8 32] 5 wr
                    case c0 => intro u hu; simp at hu; subst hu; rfl
                    case c1 => unfold maxLen; omega
                    case c2 => omega
                    case c3 => have h1 := hB.size; simp; omega
                    intro v' w3 ho' hgr _
                    have hBA : Below w1.heap.size w1 (wr.alloc (.cells #[.int .u8 32] 5)) := aB2 hB _
                    have hB3 : Below w1.heap.size w1 w3 := hBA.grown hgr hBA.size (fun j hj => (ho.lt j hj).1)
                    have ho3 : w3.ownsRow w1.heap.size 5 1 v' (bs ++ (bkF xs k).take (n + 1)).length (bytV (bs ++ (bkF xs k).take (n + 1))) := by
                      rw [HTK.out, HPV.out, ← List.append_assoc, ← HA0.out, List.length_append, bytV_snoc]; exact ho'
                    clear ho' hgr ho hB
                    go_wp2
                    go_roundw
                    case rel => exact ⟨n + 1, by omega, by go_num, ho3, hB3⟩
                    case measure => simp [intOf]; omega
                  · have hp' : ((x : Int) / 4 + (n : Int)) % 2 = 1 := by omega
                    have HPV := Lib.hid (show (if (x / 4 + n) % 2 = 0 then (32 : UInt8) else 10) = 10 from if_neg hp)
                    clear hp
                    go_wp2_with (at_builtin; refine wpList_append_own _ rfl _ _ 31 rfl w1.heap.size 5 i0 _ 1 1 Tryd.underlying31 hi hz0 hz1 hz2 rfl (by decide) _ _ _ rfl (ho.alloc _) ⟨wr.heap.size, 0, none⟩ 1 1 [.int .u8 10] rfl rfl ?cN ?c0 ?c1 ?c2 ?c3 ?_)
                    case cN => exact news_ok [.int .u8 10] 5 wr
                    case c0 => intro u hu; simp at hu; subst hu; rfl
                    case c1 => unfold maxLen; omega
                    case c2 => omega
                    case c3 => have h1 := hB.size; simp; omega
                    intro v' w3 ho' hgr _
                    have hBA : Below w1.heap.size w1 (wr.alloc (.cells #[.int .u8 10] 5)) := aB2 hB _
                    have hB3 : Below w1.heap.size w1 w3 := hBA.grown hgr hBA.size (fun j hj => (ho.lt j hj).1)
                    have ho3 : w3.ownsRow w1.heap.size 5 1 v' (bs ++ (bkF xs k).take (n + 1)).length (bytV (bs ++ (bkF xs k).take (n + 1))) := by
                      rw [HTK.out, HPV.out, ← List.append_assoc, ← HA0.out, List.length_append, bytV_snoc]; exact ho'
                    clear ho' hgr ho hB
                    go_wp2
                    go_roundw
                    case rel => exact ⟨n + 1, by omega, by go_num, ho3, hB3⟩
                    case measure => simp [intOf]; omega
                · have e1 : (x : Int) % 4 ≤ (n : Int) := by omega
                  have HTA := Lib.hid (HTA' hn)
                  clear HTN HTA'
                  rw [HA0.out, HTA.out] at ho
                  go_wp2
                  go_roundw
                  case rel => exact ⟨k + 1, bs ++ bkF xs k, by omega, by go_num, ho, hB, HF2⟩
                  case measure => simp [intOf]; omega
              · have HTA := Lib.hid (bkF_all xs k n (fun h => hkx (by rw [← HX.out]; exact h.1)))
                rw [HA0.out, HTA.out] at ho
                go_wp2
                go_roundw
                case rel => exact ⟨k + 1, bs ++ bkF xs k, by omega, by go_num, ho, hB, HF2⟩
                case measure => simp [intOf]; omega
          · have hne : ((T[k].2 : Int) == (i : Int)) = false := by simp only [beq_eq_false_iff_ne]; omega
            have HF3 := Lib.hid (ins_no hlt (fun _ => he) hF.out)
            clear hF he
            go_wp2_with (at_builtin; refine wpList_append_own _ rfl _ _ 31 rfl w1.heap.size 5 i0 _ 1 1 Tryd.underlying31 hi hz0 hz1 hz2 rfl (by decide) _ _ _ rfl (ho.alloc _) ⟨wr.heap.size, 0, none⟩ 1 1 [.int .u8 ((s[i]'hlt).toNat : Int)] rfl rfl ?cN ?c0 ?c1 ?c2 ?c3 ?_)
            case cN => exact news_ok [.int .u8 ((s[i]'hlt).toNat : Int)] 5 wr
            case c0 => intro u hu; simp at hu; subst hu; rfl
            case c1 => unfold maxLen; omega
            case c2 => omega
            case c3 => have h1 := hB.size; simp; omega
            intro v' w3 ho' hgr _
            have hBA : Below w1.heap.size w1 (wr.alloc (.cells #[.int .u8 ((s[i]'hlt).toNat : Int)] 5)) := aB2 hB _
            have hB3 : Below w1.heap.size w1 w3 := hBA.grown hgr hBA.size (fun j hj => (ho.lt j hj).1)
            have ho3 : w3.ownsRow w1.heap.size 5 1 v' (bs ++ [s[i]'hlt]).length (bytV (bs ++ [s[i]'hlt])) := by rw [List.length_append, bytV_snoc]; exact ho'
            clear ho' hgr ho hB
            go_wp2
            go_roundw
            case rel => exact ⟨i + 1, k, bs ++ [s[i]'hlt], by omega, by go_num, hk1, rfl, ho3, hB3, HF3⟩
            case measure => simp [intOf]; omega
        · have HF3 := Lib.hid (ins_no hlt (fun h => absurd h (by have := hln.out; omega)) hF.out)
          clear hF
          go_wp2_with (at_builtin; refine wpList_append_own _ rfl _ _ 31 rfl w1.heap.size 5 i0 _ 1 1 Tryd.underlying31 hi hz0 hz1 hz2 rfl (by decide) _ _ _ rfl (ho.alloc _) ⟨wr.heap.size, 0, none⟩ 1 1 [.int .u8 ((s[i]'hlt).toNat : Int)] rfl rfl ?cN ?c0 ?c1 ?c2 ?c3 ?_)
          case cN => exact news_ok [.int .u8 ((s[i]'hlt).toNat : Int)] 5 wr
          case c0 => intro u hu; simp at hu; subst hu; rfl
          case c1 => unfold maxLen; omega
          case c2 => omega
          case c3 => have h1 := hB.size; simp; omega
          intro v' w3 ho' hgr _
          have hBA : Below w1.heap.size w1 (wr.alloc (.cells #[.int .u8 ((s[i]'hlt).toNat : Int)] 5)) := aB2 hB _
          have hB3 : Below w1.heap.size w1 w3 := hBA.grown hgr hBA.size (fun j hj => (ho.lt j hj).1)
          have ho3 : w3.ownsRow w1.heap.size 5 1 v' (bs ++ [s[i]'hlt]).length (bytV (bs ++ [s[i]'hlt])) := by rw [List.length_append, bytV_snoc]; exact ho'
          clear ho' hgr ho hB
          go_wp2
          go_roundw
          case rel => exact ⟨i + 1, k, bs ++ [s[i]'hlt], by omega, by go_num, hk1, rfl, ho3, hB3, HF3⟩
          case measure => simp [intOf]; omega
    · obtain rfl : i = s.size := by omega
      have hbf := ins_done hF.out
      subst hbf
      have hcv := conv_row ho
      have hT2 := (hT.of hb1).of hB
      have hr2 := hr1.of hB
      have hbl := hfl
      have hcc : str bs ++ ⟨#[10, 32]⟩ = str (bs ++ [10, 32]) := str_app bs [10, 32]
      have hsz : (str bs).size ≤ 2700 := by rw [str_size]; exact hfl
      obtain ⟨Z, hZ⟩ : ∃ Z, Z = str (bs ++ [10, 32]) := ⟨_, rfl⟩
      rw [← hZ] at hC' hcc
      obtain ⟨Y, hY⟩ : ∃ Y, Y = str bs := ⟨_, rfl⟩
      rw [← hY] at hcc hcv hsz
      have hq1 : ¬ 9223372036854775807 < Y.size + 2 := by omega
      clear hZ hY hF ho HFU
      go_wp2_with (first | (go_at_call 6; ((with_reducible refine (hC' _ hT2).mono ?_); (rintro e w3 ⟨⟨v3, rfl, hq3⟩, hb3⟩); have hT3 := hT2.of hb3; have hr3 := hr2.of hb3)) | (go_at_call 8; ((with_reducible refine (hBy _ _ _ hr3 hq3).mono ?_); (rintro e w4 ⟨rfl, n, rfl⟩); have hb4 := bwn (Below.refl w3.heap.size w3) n; have hT4 := hT3.of hb4)) | (go_at_call 5; ((with_reducible refine (alive_yes _ hT4).mono ?_); rintro e w5 ⟨rfl, hb5⟩)))
      go_ret
      exact ⟨rfl, tr (tr (tr (tr hb1 hB) hb3) hb4) hb5⟩
end Go.Proofs.YtmccnoimnieldaaDoor
