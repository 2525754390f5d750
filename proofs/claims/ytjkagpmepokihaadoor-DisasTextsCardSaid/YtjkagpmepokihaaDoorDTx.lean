/- What is proved: DisasTexts returns true for any instructions, which stay as they were (its own card). Conditions: none beyond the row's own; the laid tables are tied to the program's text. -/
import Derived.Test.YtjkagpmepokihaaDoorAlv
import Derived.Test.YtjkagpmepokihaaDoorTin
import Derived.Test.YtjkagpmepokihaaDoorSam
import Derived.Test.YtjkagpmepokihaaDoorDeC
import Derived.Test.YtjkagpmepokihaaDoorCards
import Derived.Test.YtjkagpmepokihaaDoorTie
import Derived.SevenTiedAt
import Derived.Carry
namespace Go.Proofs.YtjkagpmepokihaaDoor.disasTexts
open Go.ChangeShapes Go.WideShapes Go.ChangeAt Go.RowKit
set_option linter.unusedVariables false
theorem catB_part : ∀ (l : List In) (i : Nat) (h : i < l.length), ((catB l).drop (4 * i)).take 4 = bl l[i].word 4
  | [], i, h => by simp at h
  | x :: l, 0, h => by
    rw [catB, List.flatMap_cons, Nat.mul_zero, List.drop_zero, List.take_append_of_le_length (by rw [bl4]; simp), List.take_of_length_le (by rw [bl4]; simp)]
    rfl
  | x :: l, i + 1, h => by
    have ih := catB_part l i (by simpa using h)
    rw [catB, List.flatMap_cons, show 4 * (i + 1) = (bl x.word 4).length + 4 * i by rw [bl4]; simp; omega, List.drop_append, List.drop_eq_nil_of_le (by omega), List.nil_append, Nat.add_sub_cancel_left]
    exact ih
theorem words_are (l : List In) (i : Nat) (h : i < l.length) : wdAt (strOfNums (catB l)) i = l[i].word := by
  have hw : l[i].word < 4294967296 := wordN_lt _ _ _ _ _
  have hp := catB_part l i h
  unfold wdAt
  have e : ((strOfNums (catB l)).extract (4 * i) (4 * i + 4)).data.toList = (((catB l).drop (4 * i)).take 4).map fun x => UInt8.ofNat x.toNat := by
    rw [ByteArray.data_extract, Array.toList_extract, List.extract_eq_take_drop, strOfNums_data, show 4 * i + 4 - 4 * i = 4 by omega, List.map_take, List.map_drop]
  rw [e, hp, bl4]
  have h4 := word4 l[i].word hw
  generalize l[i].word = v at *
  simp only [List.map_cons, List.map_nil]
  rw [show ((v : Int) % 256).toNat = v % 256 by omega, show ((v : Int) / 256 % 256).toNat = v / 256 % 256 by omega, show ((v : Int) / 65536 % 256).toNat = v / 65536 % 256 by omega, show ((v : Int) / 16777216 % 256).toNat = v / 16777216 % 256 by omega]
  exact h4
theorem bool_of (p : Prop) : ∃ c : Bool, c = true ↔ p := by
  by_cases h : p
  · exact ⟨true, by simp [h]⟩
  · exact ⟨false, by simp [h]⟩
theorem same_text (x y : In) (ox : x.ok = true) (oy : y.ok = true) (c : Bool) (hc : c = true ↔ x = y) : ((str (txtB x)).toList == (str (txtB y)).toList) = c := by
  cases c
  · exact txt_ne ox oy (fun e => by simpa using hc.2 e)
  · obtain rfl := hc.1 rfl
    simp
theorem same_insn (x y : In) (c : Bool) (hc : c = true ↔ x = y) (w : World) :
    (if (x.op : Int) = y.op then
      if (x.rd : Int) = y.rd then
        if (x.rs1 : Int) = y.rs1 then
          if (x.rs2 : Int) = y.rs2 then
            if x.imm = y.imm then Result.ok (Next.value (.bool true)) w else Result.ok (Next.value (.bool false)) w
          else Result.ok (Next.value (.bool false)) w
        else Result.ok (Next.value (.bool false)) w
      else Result.ok (Next.value (.bool false)) w
    else Result.ok (Next.value (.bool false)) w) = Result.ok (Next.value (.bool c)) w := by
  cases c
  · have h : ¬ x = y := fun e => by simpa using hc.2 e
    cases x; cases y
    simp only [In.mk.injEq, not_and] at h
    simp only [Int.ofNat_inj]
    split
    · split
      · split
        · split
          · split
            · exact absurd ‹_› (h ‹_› ‹_› ‹_› ‹_›)
            · rfl
          · rfl
        · rfl
      · rfl
    · rfl
  · obtain rfl := hc.1 rfl
    simp
theorem cat_size (l : List In) : (strOfNums (catB l)).size = 4 * l.length := by rw [strOfNums_size, catB_length]

set_option maxHeartbeats 1000000 in
theorem walk_big (v : Value) (n cap : Nat) (a : Addr) (hv : v = .slice (some a) n cap) (hn : 60 < n) (hm : n ≤ 9223372036854775807) (w : World) (h : Tb w) :
    Calls Tryd.prog 6 #[v] w fun e w' => e = .returned (.bool true) ∧ Below w.heap.size w w' := by
  subst hv
  go_enter Tryd.func6, Tryd.ntmps6
  go_wp2_with (go_at_call 11; (with_reducible refine (alive_any _ h).mono ?_); rintro e w3 ⟨rfl, hb3⟩)
  go_ret
  exact ⟨rfl, hb3⟩
set_option maxHeartbeats 1000000 in
set_option maxRecDepth 100000 in
theorem walk_no (l : List In) (b off cap m : Nat) (hmm : m < l.length) (hbad : l[m].ok = false) (hl : l.length ≤ 60) (hl0 : 0 < l.length) (hwf : ∀ x ∈ l, x.wf) (hok : ∀ i (h : i < m), (l[i]'(by omega)).ok = true) (w : World) (h : Tb w)
    (hc : ∀ i (h : i < l.length), inAt w b (off + i * 5) l[i]) (hb : b < w.heap.size) :
    Calls Tryd.prog 6 #[.slice (some ⟨b, off, none⟩) l.length cap] w fun e w' => e = .returned (.bool true) ∧ Below w.heap.size w w' := by
  obtain ⟨i0, hi, hz0, hz1, hz2⟩ := info_parts infoI
  have hnews : ∀ j u, (cellsL l)[j]? = some u → w.cell? ((⟨b, off, none⟩ : Addr).add j) = some u := fun j u hu => by rw [addp]; exact cellsL_of l off hc j u hu
  have HN := Lib.hid hnews
  have hl1 : ¬ (60 : Int) < (l.length : Int) := by omega
  clear hnews hc
  go_enter Tryd.func6, Tryd.ntmps6
  go_wp2_with (at_builtin; refine wpList_append_own _ rfl _ _ 31 rfl w.heap.size 24 i0 _ 5 16 Tryd.underlying31 hi hz0 hz1 hz2 rfl (by decide) _ 0 [] rfl (World.ownsRow_nil _ _ _ _) ⟨b, off, none⟩ l.length cap (cellsL l) rfl (cellsL_length l) HN.out (cellsL_one l) ?c1 ?c2 (Nat.le_refl _) ?_)
  case c1 => unfold maxLen; omega
  case c2 => omega
  intro v' w1 hown hgrow _
  have hown : w1.ownsRow w.heap.size 24 5 v' l.length (cellsL l) := by simpa using hown
  obtain ⟨g, cp, rfl⟩ := Joins.ownsRow_form hown hl0
  have hB1 : Below w.heap.size w w1 := (Below.refl _ _).grown hgrow (Nat.le_refl _) (fun j hj => by cases hj)
  have h1 := h.of hB1
  have hg1 : g < w1.heap.size := (hown.lt g rfl).2
  have kA := all_no l g cp m hmm hbad (by omega) hwf hok w1 (fun i hi => inAt_own rfl hown i hi) hg1 h1.1.1 h1.1.2
  clear hown hgrow
  go_wp2_with (first | (go_at_call 16; ((with_reducible refine kA.mono ?_); (rintro e w2 ⟨rfl, hb2⟩); have B2 := below_trans' hB1 (Nat.le_refl _) hb2; have T2 := h.of B2)) | (go_at_call 11; (with_reducible refine (alive_any _ T2).mono ?_); rintro e w3 ⟨rfl, hb3⟩))
  go_ret
  exact ⟨rfl, below_trans' B2 (Nat.le_refl _) hb3⟩
theorem nil_yes (w : World) (hT : Tb w) : Calls Tryd.prog 12 #[.string ByteArray.empty] w fun e w' => (∃ a c, e = .returned (.tuple #[.slice a 0 c, .int .i64 0])) ∧ Below w.heap.size w w' :=
  (dall_yes ByteArray.empty [] rfl (by decide) (fun i h => by simp at h) w hT).mono fun e w' ⟨⟨v, h1, h2⟩, h3⟩ => by
    refine ⟨?_, h3⟩
    rcases Joins.ownsRow_forms h2 with ⟨rfl, _⟩ | ⟨g, cp, rfl⟩
    · exact ⟨_, _, h1⟩
    · exact ⟨_, _, h1⟩
set_option maxHeartbeats 1000000 in
set_option maxRecDepth 100000 in
theorem walk_nil (w : World) (h : Tb w) :
    Calls Tryd.prog 6 #[.slice none 0 0] w fun e w' => e = .returned (.bool true) ∧ Below w.heap.size w w' := by
  go_enter Tryd.func6, Tryd.ntmps6
  go_wp2_with (first | (go_at_call 16; ((with_reducible refine (all_nil _).mono ?_); (rintro e w2 ⟨rfl, hb2⟩); have h2 := h.of hb2)) | (go_at_call 12; ((with_reducible refine (nil_yes _ h2).mono ?_); (rintro e w3 ⟨⟨a, c, rfl⟩, hb3⟩); have B3 := below_trans' hb2 (Nat.le_refl _) hb3)) | (go_at_call 14; ((with_reducible refine (same_nil _ _ _ _ _).mono ?_); (rintro e w4 ⟨rfl, hb4⟩); have B4 := below_trans' B3 (Nat.le_refl _) hb4; have T4 := h.of B4)))
  go_loopw [7] (fun i wr => i = .int .i64 0 ∧ wr = w4) (fun i _ => 0)
  case atStart => exact ⟨rfl, rfl⟩
  case round =>
    obtain ⟨rfl, rfl⟩ := hrel
    go_wp2_with (go_at_call 11; (with_reducible refine (alive_any _ T4).mono ?_); rintro e w5 ⟨rfl, hb5⟩)
    go_ret
    exact ⟨rfl, below_trans' B4 (Nat.le_refl _) hb5⟩
set_option maxHeartbeats 1000000 in
set_option maxRecDepth 100000 in
theorem walk_zero (a0 : Addr) (cap : Nat) (w : World) (h : Tb w) :
    Calls Tryd.prog 6 #[.slice (some a0) 0 cap] w fun e w' => e = .returned (.bool true) ∧ Below w.heap.size w w' := by
  obtain ⟨i0, hi, hz0, hz1, hz2⟩ := info_parts infoI
  go_enter Tryd.func6, Tryd.ntmps6
  go_wp2_with (at_builtin; refine wpList_append_own _ rfl _ _ 31 rfl w.heap.size 24 i0 _ 5 16 Tryd.underlying31 hi hz0 hz1 hz2 rfl (by decide) _ 0 [] rfl (World.ownsRow_nil _ _ _ _) a0 0 cap [] rfl rfl (by intro j u hj; simp at hj) (by intro u hu; simp at hu) ?c1 ?c2 (Nat.le_refl _) ?_)
  case c1 => unfold maxLen; omega
  case c2 => omega
  intro v' w1 hown hgrow hn
  subst hn
  have hB1 : Below w.heap.size w w1 := (Below.refl _ _).grown hgrow (Nat.le_refl _) (fun j hj => by cases hj)
  clear hown hgrow
  go_wp2_with (first | (go_at_call 16; ((with_reducible refine (all_nil _).mono ?_); (rintro e w2 ⟨rfl, hb2'⟩); have hb2 := below_trans' hB1 (Nat.le_refl _) hb2'; have h2 := h.of hb2)) | (go_at_call 12; ((with_reducible refine (nil_yes _ h2).mono ?_); (rintro e w3 ⟨⟨a, c, rfl⟩, hb3⟩); have B3 := below_trans' hb2 (Nat.le_refl _) hb3)) | (go_at_call 14; ((with_reducible refine (same_nil _ _ _ _ _).mono ?_); (rintro e w4 ⟨rfl, hb4⟩); have B4 := below_trans' B3 (Nat.le_refl _) hb4; have T4 := h.of B4)))
  go_loopw [7] (fun i wr => i = .int .i64 0 ∧ wr = w4) (fun i _ => 0)
  case atStart => exact ⟨rfl, rfl⟩
  case round =>
    obtain ⟨rfl, rfl⟩ := hrel
    go_wp2_with (go_at_call 11; (with_reducible refine (alive_any _ T4).mono ?_); rintro e w5 ⟨rfl, hb5⟩)
    go_ret
    exact ⟨rfl, below_trans' B4 (Nat.le_refl _) hb5⟩
set_option maxHeartbeats 8000000 in
set_option maxRecDepth 100000 in
theorem walk_yes (l : List In) (b off cap : Nat) (hl : l.length ≤ 60) (hl0 : 0 < l.length) (hwf : ∀ x ∈ l, x.wf) (hok : ∀ x ∈ l, x.ok = true) (w : World) (h : Tb w)
    (hc : ∀ i (h : i < l.length), inAt w b (off + i * 5) l[i]) (hb : b < w.heap.size) :
    Calls Tryd.prog 6 #[.slice (some ⟨b, off, none⟩) l.length cap] w fun e w' => e = .returned (.bool true) ∧ Below w.heap.size w w' := by
  obtain ⟨i0, hi, hz0, hz1, hz2⟩ := info_parts infoI
  have hnews : ∀ j u, (cellsL l)[j]? = some u → w.cell? ((⟨b, off, none⟩ : Addr).add j) = some u := fun j u hu => by rw [addp]; exact cellsL_of l off hc j u hu
  have HN := Lib.hid hnews
  have HC := Lib.hid hc
  have hl1 : ¬ (60 : Int) < (l.length : Int) := by omega
  clear hnews hc
  go_enter Tryd.func6, Tryd.ntmps6
  go_wp2_with (at_builtin; refine wpList_append_own _ rfl _ _ 31 rfl w.heap.size 24 i0 _ 5 16 Tryd.underlying31 hi hz0 hz1 hz2 rfl (by decide) _ 0 [] rfl (World.ownsRow_nil _ _ _ _) ⟨b, off, none⟩ l.length cap (cellsL l) rfl (cellsL_length l) HN.out (cellsL_one l) ?c1 ?c2 (Nat.le_refl _) ?_)
  case c1 => unfold maxLen; omega
  case c2 => omega
  intro v' w1 hown hgrow _
  have hown : w1.ownsRow w.heap.size 24 5 v' l.length (cellsL l) := by simpa using hown
  obtain ⟨g, cp, rfl⟩ := Joins.ownsRow_form hown hl0
  have hB1 : Below w.heap.size w w1 := (Below.refl _ _).grown hgrow (Nat.le_refl _) (fun j hj => by cases hj)
  have h1 := h.of hB1
  have hg1 : g < w1.heap.size := (hown.lt g rfl).2
  have kA := all_yes l g cp (by omega) hwf hok w1 (fun i hi => inAt_own rfl hown i hi) hg1 h1.1.1 h1.1.2
  have kD := fun (x : World) (hx : Tb x) => dall_yes (strOfNums (catB l)) l (cat_size l) (by rw [cat_size]; omega) (fun i h => ⟨hok _ (List.getElem_mem h), (words_are l i h).symm⟩) x hx
  have kS : ∀ (x y : World) (v : Value), Below w.heap.size w x → y = x → y.ownsRow x.heap.size 24 5 v l.length (cellsL l) → True := fun _ _ _ _ _ _ => trivial
  clear hown hgrow kS
  generalize hsT : strOfNums (catB l) = sT at *
  have kSm : ∀ (y : World) (v : Value) (z : Nat), Below w.heap.size w y → y.ownsRow z 24 5 v l.length (cellsL l) → Calls Tryd.prog 14 #[v, .slice (some ⟨b, off, none⟩) l.length cap] y fun e w' => e = .returned (.bool true) ∧ Below y.heap.size y w' := fun y v z hy ho => by
    obtain ⟨g', c', rfl⟩ := Joins.ownsRow_form ho hl0
    exact same_yes l g' c' b off cap (by omega) y (fun i hi => inAt_own rfl ho i hi) (fun i hi => (HC.out i hi).of hy hb) (ho.lt g' rfl).2 (Nat.lt_of_lt_of_le hb hy.size)
  have HS := Lib.hid kSm
  clear kSm
  go_wp2_with (first | (go_at_call 16; ((with_reducible refine kA.mono ?_); (rintro e w2 ⟨rfl, hb2⟩); have B2 := below_trans' hB1 (Nat.le_refl _) hb2; have T2 := h.of B2)) | (go_at_call 12; ((with_reducible refine (kD _ T2).mono ?_); (rintro e w3 ⟨⟨v3, rfl, o3⟩, hb3⟩); have B3 := below_trans' B2 (Nat.le_refl _) hb3; have k3 := HS.out w3 v3 w2.heap.size B3 o3; clear o3)) | (go_at_call 14; ((with_reducible refine k3.mono ?_); (rintro e w4 ⟨rfl, hb4⟩); have B4 := below_trans' B3 (Nat.le_refl _) hb4)))
  clear kA kD k3
  go_loopw [7] (fun i wr => ∃ k : Nat, k ≤ l.length ∧ i = .int .i64 k ∧ Below w.heap.size w wr) (fun i _ => l.length - (intOf i).toNat)
  case atStart => exact ⟨0, Nat.zero_le _, rfl, B4⟩
  case round =>
    obtain ⟨i, hi60, rfl, hB⟩ := hrel
    by_cases hlt : i < l.length
    · go_wp2
      go_loopw [8] (fun k wr' => ∃ j : Nat, j ≤ i ∧ k = .int .i64 j ∧ Below w.heap.size w wr') (fun k _ => i - (intOf k).toNat)
      case atStart => exact ⟨0, Nat.zero_le _, rfl, hB⟩
      case round =>
        obtain ⟨j, hj, rfl, hB'⟩ := hrel
        by_cases hjt : j < i
        · have hl2 : j < l.length := by omega
          obtain ⟨x, hx⟩ : ∃ x, l[i] = x := ⟨_, rfl⟩
          obtain ⟨y, hy⟩ : ∃ y, l[j] = y := ⟨_, rfl⟩
          have n0 : (0 : Int) ≤ (i : Int) := by omega
          have n1 : (i : Int) < (l.length : Int) := by omega
          have n2 : (0 : Int) ≤ (j : Int) := by omega
          have n3 : (j : Int) < (l.length : Int) := by omega
          have n4 : (j : Int) < (i : Int) := by omega
          go_wp2
          have BW0 : Below w.heap.size w wr.drew := hB'.drew
          obtain ⟨w0, hw0⟩ : ∃ w0, wr.drew = w0 := ⟨_, rfl⟩
          have BW : Below w.heap.size w w0 := by rw [← hw0]; exact BW0
          have IX := (HC.out i hlt).of BW hb
          have IY := (HC.out j hl2).of BW hb
          have hxm : x ∈ l := by rw [← hx]; exact List.getElem_mem hlt
          have hym : y ∈ l := by rw [← hy]; exact List.getElem_mem hl2
          rw [hx] at IX
          rw [hy] at IY
          obtain ⟨x_0, x_1, x_2, x_3, x_4⟩ := IX
          obtain ⟨y_0, y_1, y_2, y_3, y_4⟩ := IY
          have TW := h.of BW
          have tX := txt_yes x (hwf x hxm) (hok x hxm)
          have tY := txt_yes y (hwf y hym) (hok y hym)
          obtain ⟨c, hc⟩ : ∃ c : Bool, c = true ↔ x = y := bool_of _
          have hS : ((str (txtB x)).toList == (str (txtB y)).toList) = c := same_text x y (hok x hxm) (hok y hym) c hc
          unfold inC at tX tY
          have hX := same_insn x y c hc
          generalize str (txtB x) = sx at *
          generalize str (txtB y) = sy at *
          clear hwf hok HC HN HS hown hsT hc hx hy hxm hym hb2 hb3 hb4 B2 B3 B4 T2 hi hz0 hz1 hz2 h1 hg1 hB1 hlt hl2
          refine wp_mono (Q := fun e a w9 => e = .normal ∧ a = ⟨#[.slice (some ⟨b, off, none⟩) l.length cap, undef, u2, .string sT, .int .i64 0, v3, .int .i64 0, .int .i64 i, .int .i64 j, .slice (some ⟨b, off, none⟩) l.length cap, .int .i64 l.length, .bool false, undef, .tuple #[.string sT, .int .i64 0], .slice (some ⟨b, off, none⟩) l.length cap, .slice (some ⟨g, 0, none⟩) l.length cp, .tuple #[.string sT, .int .i64 0], .string sT, .int .i64 0, .int .i64 0, .bool false, undef, .tuple #[v3, .int .i64 0], .string sT, .tuple #[v3, .int .i64 0], v3, .int .i64 0, .int .i64 0, .bool false, .bool false, v3, .slice (some ⟨b, off, none⟩) l.length cap, .bool true, .bool false, .bool false, .int .i64 i, .slice (some ⟨b, off, none⟩) l.length cap, .int .i64 l.length, .bool true, u39, u40, .int .i64 j, .int .i64 i, .bool true, u44, u45, .slice (some ⟨b, off, none⟩) l.length cap, .int .i64 i, .pointer (some ⟨b, off + i * 5, none⟩), .agg #[.int .u8 x.op, .int .u8 x.rd, .int .u8 x.rs1, .int .u8 x.rs2, .int .i64 x.imm], .string sx, .slice (some ⟨b, off, none⟩) l.length cap, .int .i64 j, .pointer (some ⟨b, off + j * 5, none⟩), .agg #[.int .u8 y.op, .int .u8 y.rd, .int .u8 y.rs1, .int .u8 y.rs2, .int .i64 y.imm], .string sy, .bool c, .slice (some ⟨b, off, none⟩) l.length cap, .int .i64 i, .pointer (some ⟨b, off + i * 5, none⟩), .agg #[.int .u8 x.op, .int .u8 x.rd, .int .u8 x.rs1, .int .u8 x.rs2, .int .i64 x.imm], .slice (some ⟨b, off, none⟩) l.length cap, .int .i64 j, .pointer (some ⟨b, off + j * 5, none⟩), .agg #[.int .u8 y.op, .int .u8 y.rd, .int .u8 y.rs1, .int .u8 y.rs2, .int .i64 y.imm], .bool c, .bool false, undef], []⟩ ∧ Below w0.heap.size w0 w9) ?_ ?_
          rotate_left
          · rintro e a w9 ⟨rfl, rfl, hBe⟩
            try dsimp only
            go_wp2
            go_roundw
            case rel => exact ⟨j + 1, by omega, by go_num, below_trans' BW (Nat.le_refl _) hBe⟩
            case measure => first | (simp [intOf]; done) | (simp [intOf]; omega)
          refine wp_region_any (by kernel_rfl) ?_
          show wpAny _ _ _ _ _ _ _ (World.drew _)
          rw [hw0]
          clear hw0 BW0 BW hB'
          refine wpAny_inv (fun fu L a w => ∃ (b0 b1 b2 b3 b4 b5 b6 b7 b8 b9 b10 b11 b12 b13 b14 b15 b16 b17 b18 b19 : Bool), fu = 1 + (tg b0 + tg b1 + tg b2 + tg b3 + tg b4 + tg b5 + tg b6 + tg b7 + tg b8 + tg b9 + tg b10 + tg b11 + tg b12 + tg b13 + tg b14 + tg b15 + tg b16 + tg b17 + tg b18 + tg b19) ∧ L = #[b0, b1, b2, b3, b4, b5, b6, b7, b8, b9, b10, b11, b12, b13, b14, b15, b16, b17, b18, b19, false] ∧ a = ⟨#[.slice (some ⟨b, off, none⟩) l.length cap, undef, u2, .string sT, .int .i64 0, v3, .int .i64 0, .int .i64 i, .int .i64 j, .slice (some ⟨b, off, none⟩) l.length cap, .int .i64 l.length, .bool false, undef, .tuple #[.string sT, .int .i64 0], .slice (some ⟨b, off, none⟩) l.length cap, .slice (some ⟨g, 0, none⟩) l.length cp, .tuple #[.string sT, .int .i64 0], .string sT, .int .i64 0, .int .i64 0, .bool false, undef, .tuple #[v3, .int .i64 0], .string sT, .tuple #[v3, .int .i64 0], v3, .int .i64 0, .int .i64 0, .bool false, .bool false, v3, .slice (some ⟨b, off, none⟩) l.length cap, .bool true, .bool false, .bool false, .int .i64 i, .slice (some ⟨b, off, none⟩) l.length cap, .int .i64 l.length, .bool true, u39, u40, .int .i64 j, .int .i64 i, .bool true, u44, u45, (bif b0 then .slice (some ⟨b, off, none⟩) l.length cap else u46), (bif b1 then .int .i64 i else u47), (bif b2 then .pointer (some ⟨b, off + i * 5, none⟩) else u48), (bif b3 then .agg #[.int .u8 x.op, .int .u8 x.rd, .int .u8 x.rs1, .int .u8 x.rs2, .int .i64 x.imm] else u49), (bif b4 then .string sx else u50), (bif b5 then .slice (some ⟨b, off, none⟩) l.length cap else u51), (bif b6 then .int .i64 j else u52), (bif b7 then .pointer (some ⟨b, off + j * 5, none⟩) else u53), (bif b8 then .agg #[.int .u8 y.op, .int .u8 y.rd, .int .u8 y.rs1, .int .u8 y.rs2, .int .i64 y.imm] else u54), (bif b9 then .string sy else u55), (bif b10 then .bool c else u56), (bif b11 then .slice (some ⟨b, off, none⟩) l.length cap else u57), (bif b12 then .int .i64 i else u58), (bif b13 then .pointer (some ⟨b, off + i * 5, none⟩) else u59), (bif b14 then .agg #[.int .u8 x.op, .int .u8 x.rd, .int .u8 x.rs1, .int .u8 x.rs2, .int .i64 x.imm] else u60), (bif b15 then .slice (some ⟨b, off, none⟩) l.length cap else u61), (bif b16 then .int .i64 j else u62), (bif b17 then .pointer (some ⟨b, off + j * 5, none⟩) else u63), (bif b18 then .agg #[.int .u8 y.op, .int .u8 y.rd, .int .u8 y.rs1, .int .u8 y.rs2, .int .i64 y.imm] else u64), (bif b19 then .bool c else u65), u66, undef], []⟩ ∧ ((b2 = true → b0 = true) ∧ (b2 = true → b1 = true) ∧ (b3 = true → b2 = true) ∧ (b4 = true → b3 = true) ∧ (b7 = true → b5 = true) ∧ (b7 = true → b6 = true) ∧ (b8 = true → b7 = true) ∧ (b9 = true → b8 = true) ∧ (b9 = true → b4 = true) ∧ (b10 = true → b4 = true) ∧ (b10 = true → b9 = true) ∧ (b13 = true → b11 = true) ∧ (b13 = true → b12 = true) ∧ (b14 = true → b13 = true) ∧ (b17 = true → b15 = true) ∧ (b17 = true → b16 = true) ∧ (b18 = true → b17 = true) ∧ (b19 = true → b14 = true) ∧ (b19 = true → b18 = true)) ∧ Below w0.heap.size w0 w ∧ (True) ∧ (True)) ?_ _ _ _ _ ⟨false, false, false, false, false, false, false, false, false, false, false, false, false, false, false, false, false, false, false, false, rfl, rfl, rfl, ⟨(by simp), (by simp), (by simp), (by simp), (by simp), (by simp), (by simp), (by simp), (by simp), (by simp), (by simp), (by simp), (by simp), (by simp), (by simp), (by simp), (by simp), (by simp), (by simp)⟩, Below.refl _ _, trivial, trivial⟩
          intro fu L a w hI
          obtain ⟨b0, b1, b2, b3, b4, b5, b6, b7, b8, b9, b10, b11, b12, b13, b14, b15, b16, b17, b18, b19, rfl, rfl, rfl, ⟨e0, e1, e2, e3, e4, e5, e6, e7, e8, e9, e10, e11, e12, e13, e14, e15, e16, e17, e18⟩, hBe, _, _⟩ := hI
          by_cases hall : (b0 = true ∧ b1 = true ∧ b2 = true ∧ b3 = true ∧ b4 = true ∧ b5 = true ∧ b6 = true ∧ b7 = true ∧ b8 = true ∧ b9 = true ∧ b10 = true ∧ b11 = true ∧ b12 = true ∧ b13 = true ∧ b14 = true ∧ b15 = true ∧ b16 = true ∧ b17 = true ∧ b18 = true ∧ b19 = true)
          rotate_left
          · right
            refine ⟨0 + (tg b0 + tg b1 + tg b2 + tg b3 + tg b4 + tg b5 + tg b6 + tg b7 + tg b8 + tg b9 + tg b10 + tg b11 + tg b12 + tg b13 + tg b14 + tg b15 + tg b16 + tg b17 + tg b18 + tg b19), by omega, ?_, ?_⟩
            · intro hr
              have nin : ∀ j, j ∉ Region.ready _ _ _ := fun j hj => by rw [hr] at hj; cases hj
              have t0 : b0 = true := by
                cases b0 with
                | true => rfl
                | false => exact absurd (mem_ready.2 ⟨rfl, _, rfl, by intro e he hb; simp at he; (try (rcases he with rfl | rfl | rfl <;> first | rfl | (simp [Region.binds] at hb))); (try (rcases he with rfl | rfl <;> first | rfl | (simp [Region.binds] at hb))); (try (subst he; first | rfl | (simp [Region.binds] at hb)))⟩) (nin 0)
              subst t0
              have t1 : b1 = true := by
                cases b1 with
                | true => rfl
                | false => exact absurd (mem_ready.2 ⟨rfl, _, rfl, by intro e he hb; simp at he; (try (rcases he with rfl | rfl | rfl <;> first | rfl | (simp [Region.binds] at hb))); (try (rcases he with rfl | rfl <;> first | rfl | (simp [Region.binds] at hb))); (try (subst he; first | rfl | (simp [Region.binds] at hb)))⟩) (nin 1)
              subst t1
              have t2 : b2 = true := by
                cases b2 with
                | true => rfl
                | false => exact absurd (mem_ready.2 ⟨rfl, _, rfl, by intro e he hb; simp at he; (try (rcases he with rfl | rfl | rfl <;> first | rfl | (simp [Region.binds] at hb))); (try (rcases he with rfl | rfl <;> first | rfl | (simp [Region.binds] at hb))); (try (subst he; first | rfl | (simp [Region.binds] at hb)))⟩) (nin 2)
              subst t2
              have t3 : b3 = true := by
                cases b3 with
                | true => rfl
                | false => exact absurd (mem_ready.2 ⟨rfl, _, rfl, by intro e he hb; simp at he; (try (rcases he with rfl | rfl | rfl <;> first | rfl | (simp [Region.binds] at hb))); (try (rcases he with rfl | rfl <;> first | rfl | (simp [Region.binds] at hb))); (try (subst he; first | rfl | (simp [Region.binds] at hb)))⟩) (nin 3)
              subst t3
              have t4 : b4 = true := by
                cases b4 with
                | true => rfl
                | false => exact absurd (mem_ready.2 ⟨rfl, _, rfl, by intro e he hb; simp at he; (try (rcases he with rfl | rfl | rfl <;> first | rfl | (simp [Region.binds] at hb))); (try (rcases he with rfl | rfl <;> first | rfl | (simp [Region.binds] at hb))); (try (subst he; first | rfl | (simp [Region.binds] at hb)))⟩) (nin 4)
              subst t4
              have t5 : b5 = true := by
                cases b5 with
                | true => rfl
                | false => exact absurd (mem_ready.2 ⟨rfl, _, rfl, by intro e he hb; simp at he; (try (rcases he with rfl | rfl | rfl <;> first | rfl | (simp [Region.binds] at hb))); (try (rcases he with rfl | rfl <;> first | rfl | (simp [Region.binds] at hb))); (try (subst he; first | rfl | (simp [Region.binds] at hb)))⟩) (nin 5)
              subst t5
              have t6 : b6 = true := by
                cases b6 with
                | true => rfl
                | false => exact absurd (mem_ready.2 ⟨rfl, _, rfl, by intro e he hb; simp at he; (try (rcases he with rfl | rfl | rfl <;> first | rfl | (simp [Region.binds] at hb))); (try (rcases he with rfl | rfl <;> first | rfl | (simp [Region.binds] at hb))); (try (subst he; first | rfl | (simp [Region.binds] at hb)))⟩) (nin 6)
              subst t6
              have t7 : b7 = true := by
                cases b7 with
                | true => rfl
                | false => exact absurd (mem_ready.2 ⟨rfl, _, rfl, by intro e he hb; simp at he; (try (rcases he with rfl | rfl | rfl <;> first | rfl | (simp [Region.binds] at hb))); (try (rcases he with rfl | rfl <;> first | rfl | (simp [Region.binds] at hb))); (try (subst he; first | rfl | (simp [Region.binds] at hb)))⟩) (nin 7)
              subst t7
              have t8 : b8 = true := by
                cases b8 with
                | true => rfl
                | false => exact absurd (mem_ready.2 ⟨rfl, _, rfl, by intro e he hb; simp at he; (try (rcases he with rfl | rfl | rfl <;> first | rfl | (simp [Region.binds] at hb))); (try (rcases he with rfl | rfl <;> first | rfl | (simp [Region.binds] at hb))); (try (subst he; first | rfl | (simp [Region.binds] at hb)))⟩) (nin 8)
              subst t8
              have t9 : b9 = true := by
                cases b9 with
                | true => rfl
                | false => exact absurd (mem_ready.2 ⟨rfl, _, rfl, by intro e he hb; simp at he; (try (rcases he with rfl | rfl | rfl <;> first | rfl | (simp [Region.binds] at hb))); (try (rcases he with rfl | rfl <;> first | rfl | (simp [Region.binds] at hb))); (try (subst he; first | rfl | (simp [Region.binds] at hb)))⟩) (nin 9)
              subst t9
              have t10 : b10 = true := by
                cases b10 with
                | true => rfl
                | false => exact absurd (mem_ready.2 ⟨rfl, _, rfl, by intro e he hb; simp at he; (try (rcases he with rfl | rfl | rfl <;> first | rfl | (simp [Region.binds] at hb))); (try (rcases he with rfl | rfl <;> first | rfl | (simp [Region.binds] at hb))); (try (subst he; first | rfl | (simp [Region.binds] at hb)))⟩) (nin 10)
              subst t10
              have t11 : b11 = true := by
                cases b11 with
                | true => rfl
                | false => exact absurd (mem_ready.2 ⟨rfl, _, rfl, by intro e he hb; simp at he; (try (rcases he with rfl | rfl | rfl <;> first | rfl | (simp [Region.binds] at hb))); (try (rcases he with rfl | rfl <;> first | rfl | (simp [Region.binds] at hb))); (try (subst he; first | rfl | (simp [Region.binds] at hb)))⟩) (nin 11)
              subst t11
              have t12 : b12 = true := by
                cases b12 with
                | true => rfl
                | false => exact absurd (mem_ready.2 ⟨rfl, _, rfl, by intro e he hb; simp at he; (try (rcases he with rfl | rfl | rfl <;> first | rfl | (simp [Region.binds] at hb))); (try (rcases he with rfl | rfl <;> first | rfl | (simp [Region.binds] at hb))); (try (subst he; first | rfl | (simp [Region.binds] at hb)))⟩) (nin 12)
              subst t12
              have t13 : b13 = true := by
                cases b13 with
                | true => rfl
                | false => exact absurd (mem_ready.2 ⟨rfl, _, rfl, by intro e he hb; simp at he; (try (rcases he with rfl | rfl | rfl <;> first | rfl | (simp [Region.binds] at hb))); (try (rcases he with rfl | rfl <;> first | rfl | (simp [Region.binds] at hb))); (try (subst he; first | rfl | (simp [Region.binds] at hb)))⟩) (nin 13)
              subst t13
              have t14 : b14 = true := by
                cases b14 with
                | true => rfl
                | false => exact absurd (mem_ready.2 ⟨rfl, _, rfl, by intro e he hb; simp at he; (try (rcases he with rfl | rfl | rfl <;> first | rfl | (simp [Region.binds] at hb))); (try (rcases he with rfl | rfl <;> first | rfl | (simp [Region.binds] at hb))); (try (subst he; first | rfl | (simp [Region.binds] at hb)))⟩) (nin 14)
              subst t14
              have t15 : b15 = true := by
                cases b15 with
                | true => rfl
                | false => exact absurd (mem_ready.2 ⟨rfl, _, rfl, by intro e he hb; simp at he; (try (rcases he with rfl | rfl | rfl <;> first | rfl | (simp [Region.binds] at hb))); (try (rcases he with rfl | rfl <;> first | rfl | (simp [Region.binds] at hb))); (try (subst he; first | rfl | (simp [Region.binds] at hb)))⟩) (nin 15)
              subst t15
              have t16 : b16 = true := by
                cases b16 with
                | true => rfl
                | false => exact absurd (mem_ready.2 ⟨rfl, _, rfl, by intro e he hb; simp at he; (try (rcases he with rfl | rfl | rfl <;> first | rfl | (simp [Region.binds] at hb))); (try (rcases he with rfl | rfl <;> first | rfl | (simp [Region.binds] at hb))); (try (subst he; first | rfl | (simp [Region.binds] at hb)))⟩) (nin 16)
              subst t16
              have t17 : b17 = true := by
                cases b17 with
                | true => rfl
                | false => exact absurd (mem_ready.2 ⟨rfl, _, rfl, by intro e he hb; simp at he; (try (rcases he with rfl | rfl | rfl <;> first | rfl | (simp [Region.binds] at hb))); (try (rcases he with rfl | rfl <;> first | rfl | (simp [Region.binds] at hb))); (try (subst he; first | rfl | (simp [Region.binds] at hb)))⟩) (nin 17)
              subst t17
              have t18 : b18 = true := by
                cases b18 with
                | true => rfl
                | false => exact absurd (mem_ready.2 ⟨rfl, _, rfl, by intro e he hb; simp at he; (try (rcases he with rfl | rfl | rfl <;> first | rfl | (simp [Region.binds] at hb))); (try (rcases he with rfl | rfl <;> first | rfl | (simp [Region.binds] at hb))); (try (subst he; first | rfl | (simp [Region.binds] at hb)))⟩) (nin 18)
              subst t18
              have t19 : b19 = true := by
                cases b19 with
                | true => rfl
                | false => exact absurd (mem_ready.2 ⟨rfl, _, rfl, by intro e he hb; simp at he; (try (rcases he with rfl | rfl | rfl <;> first | rfl | (simp [Region.binds] at hb))); (try (rcases he with rfl | rfl <;> first | rfl | (simp [Region.binds] at hb))); (try (subst he; first | rfl | (simp [Region.binds] at hb)))⟩) (nin 19)
              subst t19
              exact hall ⟨rfl, rfl, rfl, rfl, rfl, rfl, rfl, rfl, rfl, rfl, rfl, rfl, rfl, rfl, rfl, rfl, rfl, rfl, rfl, rfl⟩
            · intro i hi
              obtain ⟨h0, o, ho, hd⟩ := mem_ready.1 hi
              have hiN : i < 21 := by simpa using (Array.getElem?_eq_some_iff.1 ho).1
              have hcN : i = 0 ∨ i = 1 ∨ i = 2 ∨ i = 3 ∨ i = 4 ∨ i = 5 ∨ i = 6 ∨ i = 7 ∨ i = 8 ∨ i = 9 ∨ i = 10 ∨ i = 11 ∨ i = 12 ∨ i = 13 ∨ i = 14 ∨ i = 15 ∨ i = 16 ∨ i = 17 ∨ i = 18 ∨ i = 19 ∨ i = 20 := by omega
              clear hi hiN
              rcases hcN with rfl | rfl | rfl | rfl | rfl | rfl | rfl | rfl | rfl | rfl | rfl | rfl | rfl | rfl | rfl | rfl | rfl | rfl | rfl | rfl | rfl
              · simp at ho h0
                subst ho
                simp [Region.binds] at hd
                subst h0
                refine wpOp_step rfl (fun K' hK => ?_)
                go_simp
                exact hK _ _ ⟨true, b1, b2, b3, b4, b5, b6, b7, b8, b9, b10, b11, b12, b13, b14, b15, b16, b17, b18, b19, by first | (simp only [tg_t, tg_f]; done) | (simp only [tg_t, tg_f]; omega), rfl, rfl, ⟨(by intro h; first | exact e0 h | rfl), (by intro h; first | exact e1 h | rfl), (by intro h; first | exact e2 h | rfl), (by intro h; first | exact e3 h | rfl), (by intro h; first | exact e4 h | rfl), (by intro h; first | exact e5 h | rfl), (by intro h; first | exact e6 h | rfl), (by intro h; first | exact e7 h | rfl), (by intro h; first | exact e8 h | rfl), (by intro h; first | exact e9 h | rfl), (by intro h; first | exact e10 h | rfl), (by intro h; first | exact e11 h | rfl), (by intro h; first | exact e12 h | rfl), (by intro h; first | exact e13 h | rfl), (by intro h; first | exact e14 h | rfl), (by intro h; first | exact e15 h | rfl), (by intro h; first | exact e16 h | rfl), (by intro h; first | exact e17 h | rfl), (by intro h; first | exact e18 h | rfl)⟩, hBe, trivial, trivial⟩
              · simp at ho h0
                subst ho
                simp [Region.binds] at hd
                subst h0
                refine wpOp_step rfl (fun K' hK => ?_)
                go_simp
                exact hK _ _ ⟨b0, true, b2, b3, b4, b5, b6, b7, b8, b9, b10, b11, b12, b13, b14, b15, b16, b17, b18, b19, by first | (simp only [tg_t, tg_f]; done) | (simp only [tg_t, tg_f]; omega), rfl, rfl, ⟨(by intro h; first | exact e0 h | rfl), (by intro h; first | exact e1 h | rfl), (by intro h; first | exact e2 h | rfl), (by intro h; first | exact e3 h | rfl), (by intro h; first | exact e4 h | rfl), (by intro h; first | exact e5 h | rfl), (by intro h; first | exact e6 h | rfl), (by intro h; first | exact e7 h | rfl), (by intro h; first | exact e8 h | rfl), (by intro h; first | exact e9 h | rfl), (by intro h; first | exact e10 h | rfl), (by intro h; first | exact e11 h | rfl), (by intro h; first | exact e12 h | rfl), (by intro h; first | exact e13 h | rfl), (by intro h; first | exact e14 h | rfl), (by intro h; first | exact e15 h | rfl), (by intro h; first | exact e16 h | rfl), (by intro h; first | exact e17 h | rfl), (by intro h; first | exact e18 h | rfl)⟩, hBe, trivial, trivial⟩
              · simp at ho h0
                subst ho
                simp [Region.binds] at hd
                subst h0
                refine wpOp_step rfl (fun K' hK => ?_)
                have g0 : b0 = true := by first | exact hd | exact hd.1 | exact hd.2 | exact hd.2.1 | exact hd.2.2 | exact hd.2.2.1 | exact hd.2.2.2
                have g1 : b1 = true := by first | exact hd | exact hd.1 | exact hd.2 | exact hd.2.1 | exact hd.2.2 | exact hd.2.2.1 | exact hd.2.2.2
                clear hd
                subst g0 g1
                go_simp
                exact hK _ _ ⟨true, true, true, b3, b4, b5, b6, b7, b8, b9, b10, b11, b12, b13, b14, b15, b16, b17, b18, b19, by first | (simp only [tg_t, tg_f]; done) | (simp only [tg_t, tg_f]; omega), rfl, rfl, ⟨(by intro h; first | exact e0 h | rfl), (by intro h; first | exact e1 h | rfl), (by intro h; first | exact e2 h | rfl), (by intro h; first | exact e3 h | rfl), (by intro h; first | exact e4 h | rfl), (by intro h; first | exact e5 h | rfl), (by intro h; first | exact e6 h | rfl), (by intro h; first | exact e7 h | rfl), (by intro h; first | exact e8 h | rfl), (by intro h; first | exact e9 h | rfl), (by intro h; first | exact e10 h | rfl), (by intro h; first | exact e11 h | rfl), (by intro h; first | exact e12 h | rfl), (by intro h; first | exact e13 h | rfl), (by intro h; first | exact e14 h | rfl), (by intro h; first | exact e15 h | rfl), (by intro h; first | exact e16 h | rfl), (by intro h; first | exact e17 h | rfl), (by intro h; first | exact e18 h | rfl)⟩, hBe, trivial, trivial⟩
              · simp at ho h0
                subst ho
                simp [Region.binds] at hd
                subst h0
                refine wpOp_step rfl (fun K' hK => ?_)
                have g2 : b2 = true := by first | exact hd | exact hd.1 | exact hd.2 | exact hd.2.1 | exact hd.2.2 | exact hd.2.2.1 | exact hd.2.2.2
                clear hd
                subst g2
                obtain rfl := e0 rfl
                obtain rfl := e1 rfl
                have l0 := stay hBe x_0
                have l1 := stay hBe x_1
                have l2 := stay hBe x_2
                have l3 := stay hBe x_3
                have l4 := stay hBe x_4
                go_simp
                exact hK _ _ ⟨true, true, true, true, b4, b5, b6, b7, b8, b9, b10, b11, b12, b13, b14, b15, b16, b17, b18, b19, by first | (simp only [tg_t, tg_f]; done) | (simp only [tg_t, tg_f]; omega), rfl, rfl, ⟨(by intro h; first | exact e0 h | rfl), (by intro h; first | exact e1 h | rfl), (by intro h; first | exact e2 h | rfl), (by intro h; first | exact e3 h | rfl), (by intro h; first | exact e4 h | rfl), (by intro h; first | exact e5 h | rfl), (by intro h; first | exact e6 h | rfl), (by intro h; first | exact e7 h | rfl), (by intro h; first | exact e8 h | rfl), (by intro h; first | exact e9 h | rfl), (by intro h; first | exact e10 h | rfl), (by intro h; first | exact e11 h | rfl), (by intro h; first | exact e12 h | rfl), (by intro h; first | exact e13 h | rfl), (by intro h; first | exact e14 h | rfl), (by intro h; first | exact e15 h | rfl), (by intro h; first | exact e16 h | rfl), (by intro h; first | exact e17 h | rfl), (by intro h; first | exact e18 h | rfl)⟩, hBe, trivial, trivial⟩
              · simp at ho h0
                subst ho
                simp [Region.binds] at hd
                subst h0
                refine wpOp_step rfl (fun K' hK => ?_)
                have g3 : b3 = true := by first | exact hd | exact hd.1 | exact hd.2 | exact hd.2.1 | exact hd.2.2 | exact hd.2.2.1 | exact hd.2.2.2
                clear hd
                subst g3
                obtain rfl := e2 rfl
                obtain rfl := e0 rfl
                obtain rfl := e1 rfl
                go_simp
                go_at_call 9; (with_reducible refine (tX _ (TW.of hBe)).mono ?_); rintro e w3 ⟨rfl, hbc⟩
                exact hK _ _ ⟨true, true, true, true, true, b5, b6, b7, b8, b9, b10, b11, b12, b13, b14, b15, b16, b17, b18, b19, by first | (simp only [tg_t, tg_f]; done) | (simp only [tg_t, tg_f]; omega), rfl, rfl, ⟨(by intro h; first | exact e0 h | rfl), (by intro h; first | exact e1 h | rfl), (by intro h; first | exact e2 h | rfl), (by intro h; first | exact e3 h | rfl), (by intro h; first | exact e4 h | rfl), (by intro h; first | exact e5 h | rfl), (by intro h; first | exact e6 h | rfl), (by intro h; first | exact e7 h | rfl), (by intro h; first | exact e8 h | rfl), (by intro h; first | exact e9 h | rfl), (by intro h; first | exact e10 h | rfl), (by intro h; first | exact e11 h | rfl), (by intro h; first | exact e12 h | rfl), (by intro h; first | exact e13 h | rfl), (by intro h; first | exact e14 h | rfl), (by intro h; first | exact e15 h | rfl), (by intro h; first | exact e16 h | rfl), (by intro h; first | exact e17 h | rfl), (by intro h; first | exact e18 h | rfl)⟩, (below_trans' hBe (Nat.le_refl _) hbc), trivial, trivial⟩
              · simp at ho h0
                subst ho
                simp [Region.binds] at hd
                subst h0
                refine wpOp_step rfl (fun K' hK => ?_)
                go_simp
                exact hK _ _ ⟨b0, b1, b2, b3, b4, true, b6, b7, b8, b9, b10, b11, b12, b13, b14, b15, b16, b17, b18, b19, by first | (simp only [tg_t, tg_f]; done) | (simp only [tg_t, tg_f]; omega), rfl, rfl, ⟨(by intro h; first | exact e0 h | rfl), (by intro h; first | exact e1 h | rfl), (by intro h; first | exact e2 h | rfl), (by intro h; first | exact e3 h | rfl), (by intro h; first | exact e4 h | rfl), (by intro h; first | exact e5 h | rfl), (by intro h; first | exact e6 h | rfl), (by intro h; first | exact e7 h | rfl), (by intro h; first | exact e8 h | rfl), (by intro h; first | exact e9 h | rfl), (by intro h; first | exact e10 h | rfl), (by intro h; first | exact e11 h | rfl), (by intro h; first | exact e12 h | rfl), (by intro h; first | exact e13 h | rfl), (by intro h; first | exact e14 h | rfl), (by intro h; first | exact e15 h | rfl), (by intro h; first | exact e16 h | rfl), (by intro h; first | exact e17 h | rfl), (by intro h; first | exact e18 h | rfl)⟩, hBe, trivial, trivial⟩
              · simp at ho h0
                subst ho
                simp [Region.binds] at hd
                subst h0
                refine wpOp_step rfl (fun K' hK => ?_)
                go_simp
                exact hK _ _ ⟨b0, b1, b2, b3, b4, b5, true, b7, b8, b9, b10, b11, b12, b13, b14, b15, b16, b17, b18, b19, by first | (simp only [tg_t, tg_f]; done) | (simp only [tg_t, tg_f]; omega), rfl, rfl, ⟨(by intro h; first | exact e0 h | rfl), (by intro h; first | exact e1 h | rfl), (by intro h; first | exact e2 h | rfl), (by intro h; first | exact e3 h | rfl), (by intro h; first | exact e4 h | rfl), (by intro h; first | exact e5 h | rfl), (by intro h; first | exact e6 h | rfl), (by intro h; first | exact e7 h | rfl), (by intro h; first | exact e8 h | rfl), (by intro h; first | exact e9 h | rfl), (by intro h; first | exact e10 h | rfl), (by intro h; first | exact e11 h | rfl), (by intro h; first | exact e12 h | rfl), (by intro h; first | exact e13 h | rfl), (by intro h; first | exact e14 h | rfl), (by intro h; first | exact e15 h | rfl), (by intro h; first | exact e16 h | rfl), (by intro h; first | exact e17 h | rfl), (by intro h; first | exact e18 h | rfl)⟩, hBe, trivial, trivial⟩
              · simp at ho h0
                subst ho
                simp [Region.binds] at hd
                subst h0
                refine wpOp_step rfl (fun K' hK => ?_)
                have g5 : b5 = true := by first | exact hd | exact hd.1 | exact hd.2 | exact hd.2.1 | exact hd.2.2 | exact hd.2.2.1 | exact hd.2.2.2
                have g6 : b6 = true := by first | exact hd | exact hd.1 | exact hd.2 | exact hd.2.1 | exact hd.2.2 | exact hd.2.2.1 | exact hd.2.2.2
                clear hd
                subst g5 g6
                go_simp
                exact hK _ _ ⟨b0, b1, b2, b3, b4, true, true, true, b8, b9, b10, b11, b12, b13, b14, b15, b16, b17, b18, b19, by first | (simp only [tg_t, tg_f]; done) | (simp only [tg_t, tg_f]; omega), rfl, rfl, ⟨(by intro h; first | exact e0 h | rfl), (by intro h; first | exact e1 h | rfl), (by intro h; first | exact e2 h | rfl), (by intro h; first | exact e3 h | rfl), (by intro h; first | exact e4 h | rfl), (by intro h; first | exact e5 h | rfl), (by intro h; first | exact e6 h | rfl), (by intro h; first | exact e7 h | rfl), (by intro h; first | exact e8 h | rfl), (by intro h; first | exact e9 h | rfl), (by intro h; first | exact e10 h | rfl), (by intro h; first | exact e11 h | rfl), (by intro h; first | exact e12 h | rfl), (by intro h; first | exact e13 h | rfl), (by intro h; first | exact e14 h | rfl), (by intro h; first | exact e15 h | rfl), (by intro h; first | exact e16 h | rfl), (by intro h; first | exact e17 h | rfl), (by intro h; first | exact e18 h | rfl)⟩, hBe, trivial, trivial⟩
              · simp at ho h0
                subst ho
                simp [Region.binds] at hd
                subst h0
                refine wpOp_step rfl (fun K' hK => ?_)
                have g7 : b7 = true := by first | exact hd | exact hd.1 | exact hd.2 | exact hd.2.1 | exact hd.2.2 | exact hd.2.2.1 | exact hd.2.2.2
                clear hd
                subst g7
                obtain rfl := e4 rfl
                obtain rfl := e5 rfl
                have l0 := stay hBe y_0
                have l1 := stay hBe y_1
                have l2 := stay hBe y_2
                have l3 := stay hBe y_3
                have l4 := stay hBe y_4
                go_simp
                exact hK _ _ ⟨b0, b1, b2, b3, b4, true, true, true, true, b9, b10, b11, b12, b13, b14, b15, b16, b17, b18, b19, by first | (simp only [tg_t, tg_f]; done) | (simp only [tg_t, tg_f]; omega), rfl, rfl, ⟨(by intro h; first | exact e0 h | rfl), (by intro h; first | exact e1 h | rfl), (by intro h; first | exact e2 h | rfl), (by intro h; first | exact e3 h | rfl), (by intro h; first | exact e4 h | rfl), (by intro h; first | exact e5 h | rfl), (by intro h; first | exact e6 h | rfl), (by intro h; first | exact e7 h | rfl), (by intro h; first | exact e8 h | rfl), (by intro h; first | exact e9 h | rfl), (by intro h; first | exact e10 h | rfl), (by intro h; first | exact e11 h | rfl), (by intro h; first | exact e12 h | rfl), (by intro h; first | exact e13 h | rfl), (by intro h; first | exact e14 h | rfl), (by intro h; first | exact e15 h | rfl), (by intro h; first | exact e16 h | rfl), (by intro h; first | exact e17 h | rfl), (by intro h; first | exact e18 h | rfl)⟩, hBe, trivial, trivial⟩
              · simp at ho h0
                subst ho
                simp [Region.binds] at hd
                subst h0
                refine wpOp_step rfl (fun K' hK => ?_)
                have g8 : b8 = true := by first | exact hd | exact hd.1 | exact hd.2 | exact hd.2.1 | exact hd.2.2 | exact hd.2.2.1 | exact hd.2.2.2
                have g4 : b4 = true := by first | exact hd | exact hd.1 | exact hd.2 | exact hd.2.1 | exact hd.2.2 | exact hd.2.2.1 | exact hd.2.2.2
                clear hd
                subst g8 g4
                obtain rfl := e6 rfl
                obtain rfl := e3 rfl
                obtain rfl := e4 rfl
                obtain rfl := e5 rfl
                obtain rfl := e2 rfl
                obtain rfl := e0 rfl
                obtain rfl := e1 rfl
                go_simp
                go_at_call 9; (with_reducible refine (tY _ (TW.of hBe)).mono ?_); rintro e w3 ⟨rfl, hbc⟩
                exact hK _ _ ⟨true, true, true, true, true, true, true, true, true, true, b10, b11, b12, b13, b14, b15, b16, b17, b18, b19, by first | (simp only [tg_t, tg_f]; done) | (simp only [tg_t, tg_f]; omega), rfl, rfl, ⟨(by intro h; first | exact e0 h | rfl), (by intro h; first | exact e1 h | rfl), (by intro h; first | exact e2 h | rfl), (by intro h; first | exact e3 h | rfl), (by intro h; first | exact e4 h | rfl), (by intro h; first | exact e5 h | rfl), (by intro h; first | exact e6 h | rfl), (by intro h; first | exact e7 h | rfl), (by intro h; first | exact e8 h | rfl), (by intro h; first | exact e9 h | rfl), (by intro h; first | exact e10 h | rfl), (by intro h; first | exact e11 h | rfl), (by intro h; first | exact e12 h | rfl), (by intro h; first | exact e13 h | rfl), (by intro h; first | exact e14 h | rfl), (by intro h; first | exact e15 h | rfl), (by intro h; first | exact e16 h | rfl), (by intro h; first | exact e17 h | rfl), (by intro h; first | exact e18 h | rfl)⟩, (below_trans' hBe (Nat.le_refl _) hbc), trivial, trivial⟩
              · simp at ho h0
                subst ho
                simp [Region.binds] at hd
                subst h0
                refine wpOp_step rfl (fun K' hK => ?_)
                have g4 : b4 = true := by first | exact hd | exact hd.1 | exact hd.2 | exact hd.2.1 | exact hd.2.2 | exact hd.2.2.1 | exact hd.2.2.2
                have g9 : b9 = true := by first | exact hd | exact hd.1 | exact hd.2 | exact hd.2.1 | exact hd.2.2 | exact hd.2.2.1 | exact hd.2.2.2
                clear hd
                subst g4 g9
                obtain rfl := e3 rfl
                obtain rfl := e7 rfl
                obtain rfl := e2 rfl
                obtain rfl := e6 rfl
                obtain rfl := e0 rfl
                obtain rfl := e1 rfl
                obtain rfl := e4 rfl
                obtain rfl := e5 rfl
                go_simp
                try rw [hS]
                exact hK _ _ ⟨true, true, true, true, true, true, true, true, true, true, true, b11, b12, b13, b14, b15, b16, b17, b18, b19, by first | (simp only [tg_t, tg_f]; done) | (simp only [tg_t, tg_f]; omega), rfl, rfl, ⟨(by intro h; first | exact e0 h | rfl), (by intro h; first | exact e1 h | rfl), (by intro h; first | exact e2 h | rfl), (by intro h; first | exact e3 h | rfl), (by intro h; first | exact e4 h | rfl), (by intro h; first | exact e5 h | rfl), (by intro h; first | exact e6 h | rfl), (by intro h; first | exact e7 h | rfl), (by intro h; first | exact e8 h | rfl), (by intro h; first | exact e9 h | rfl), (by intro h; first | exact e10 h | rfl), (by intro h; first | exact e11 h | rfl), (by intro h; first | exact e12 h | rfl), (by intro h; first | exact e13 h | rfl), (by intro h; first | exact e14 h | rfl), (by intro h; first | exact e15 h | rfl), (by intro h; first | exact e16 h | rfl), (by intro h; first | exact e17 h | rfl), (by intro h; first | exact e18 h | rfl)⟩, hBe, trivial, trivial⟩
              · simp at ho h0
                subst ho
                simp [Region.binds] at hd
                subst h0
                refine wpOp_step rfl (fun K' hK => ?_)
                go_simp
                exact hK _ _ ⟨b0, b1, b2, b3, b4, b5, b6, b7, b8, b9, b10, true, b12, b13, b14, b15, b16, b17, b18, b19, by first | (simp only [tg_t, tg_f]; done) | (simp only [tg_t, tg_f]; omega), rfl, rfl, ⟨(by intro h; first | exact e0 h | rfl), (by intro h; first | exact e1 h | rfl), (by intro h; first | exact e2 h | rfl), (by intro h; first | exact e3 h | rfl), (by intro h; first | exact e4 h | rfl), (by intro h; first | exact e5 h | rfl), (by intro h; first | exact e6 h | rfl), (by intro h; first | exact e7 h | rfl), (by intro h; first | exact e8 h | rfl), (by intro h; first | exact e9 h | rfl), (by intro h; first | exact e10 h | rfl), (by intro h; first | exact e11 h | rfl), (by intro h; first | exact e12 h | rfl), (by intro h; first | exact e13 h | rfl), (by intro h; first | exact e14 h | rfl), (by intro h; first | exact e15 h | rfl), (by intro h; first | exact e16 h | rfl), (by intro h; first | exact e17 h | rfl), (by intro h; first | exact e18 h | rfl)⟩, hBe, trivial, trivial⟩
              · simp at ho h0
                subst ho
                simp [Region.binds] at hd
                subst h0
                refine wpOp_step rfl (fun K' hK => ?_)
                go_simp
                exact hK _ _ ⟨b0, b1, b2, b3, b4, b5, b6, b7, b8, b9, b10, b11, true, b13, b14, b15, b16, b17, b18, b19, by first | (simp only [tg_t, tg_f]; done) | (simp only [tg_t, tg_f]; omega), rfl, rfl, ⟨(by intro h; first | exact e0 h | rfl), (by intro h; first | exact e1 h | rfl), (by intro h; first | exact e2 h | rfl), (by intro h; first | exact e3 h | rfl), (by intro h; first | exact e4 h | rfl), (by intro h; first | exact e5 h | rfl), (by intro h; first | exact e6 h | rfl), (by intro h; first | exact e7 h | rfl), (by intro h; first | exact e8 h | rfl), (by intro h; first | exact e9 h | rfl), (by intro h; first | exact e10 h | rfl), (by intro h; first | exact e11 h | rfl), (by intro h; first | exact e12 h | rfl), (by intro h; first | exact e13 h | rfl), (by intro h; first | exact e14 h | rfl), (by intro h; first | exact e15 h | rfl), (by intro h; first | exact e16 h | rfl), (by intro h; first | exact e17 h | rfl), (by intro h; first | exact e18 h | rfl)⟩, hBe, trivial, trivial⟩
              · simp at ho h0
                subst ho
                simp [Region.binds] at hd
                subst h0
                refine wpOp_step rfl (fun K' hK => ?_)
                have g11 : b11 = true := by first | exact hd | exact hd.1 | exact hd.2 | exact hd.2.1 | exact hd.2.2 | exact hd.2.2.1 | exact hd.2.2.2
                have g12 : b12 = true := by first | exact hd | exact hd.1 | exact hd.2 | exact hd.2.1 | exact hd.2.2 | exact hd.2.2.1 | exact hd.2.2.2
                clear hd
                subst g11 g12
                go_simp
                exact hK _ _ ⟨b0, b1, b2, b3, b4, b5, b6, b7, b8, b9, b10, true, true, true, b14, b15, b16, b17, b18, b19, by first | (simp only [tg_t, tg_f]; done) | (simp only [tg_t, tg_f]; omega), rfl, rfl, ⟨(by intro h; first | exact e0 h | rfl), (by intro h; first | exact e1 h | rfl), (by intro h; first | exact e2 h | rfl), (by intro h; first | exact e3 h | rfl), (by intro h; first | exact e4 h | rfl), (by intro h; first | exact e5 h | rfl), (by intro h; first | exact e6 h | rfl), (by intro h; first | exact e7 h | rfl), (by intro h; first | exact e8 h | rfl), (by intro h; first | exact e9 h | rfl), (by intro h; first | exact e10 h | rfl), (by intro h; first | exact e11 h | rfl), (by intro h; first | exact e12 h | rfl), (by intro h; first | exact e13 h | rfl), (by intro h; first | exact e14 h | rfl), (by intro h; first | exact e15 h | rfl), (by intro h; first | exact e16 h | rfl), (by intro h; first | exact e17 h | rfl), (by intro h; first | exact e18 h | rfl)⟩, hBe, trivial, trivial⟩
              · simp at ho h0
                subst ho
                simp [Region.binds] at hd
                subst h0
                refine wpOp_step rfl (fun K' hK => ?_)
                have g13 : b13 = true := by first | exact hd | exact hd.1 | exact hd.2 | exact hd.2.1 | exact hd.2.2 | exact hd.2.2.1 | exact hd.2.2.2
                clear hd
                subst g13
                obtain rfl := e11 rfl
                obtain rfl := e12 rfl
                have l0 := stay hBe x_0
                have l1 := stay hBe x_1
                have l2 := stay hBe x_2
                have l3 := stay hBe x_3
                have l4 := stay hBe x_4
                go_simp
                exact hK _ _ ⟨b0, b1, b2, b3, b4, b5, b6, b7, b8, b9, b10, true, true, true, true, b15, b16, b17, b18, b19, by first | (simp only [tg_t, tg_f]; done) | (simp only [tg_t, tg_f]; omega), rfl, rfl, ⟨(by intro h; first | exact e0 h | rfl), (by intro h; first | exact e1 h | rfl), (by intro h; first | exact e2 h | rfl), (by intro h; first | exact e3 h | rfl), (by intro h; first | exact e4 h | rfl), (by intro h; first | exact e5 h | rfl), (by intro h; first | exact e6 h | rfl), (by intro h; first | exact e7 h | rfl), (by intro h; first | exact e8 h | rfl), (by intro h; first | exact e9 h | rfl), (by intro h; first | exact e10 h | rfl), (by intro h; first | exact e11 h | rfl), (by intro h; first | exact e12 h | rfl), (by intro h; first | exact e13 h | rfl), (by intro h; first | exact e14 h | rfl), (by intro h; first | exact e15 h | rfl), (by intro h; first | exact e16 h | rfl), (by intro h; first | exact e17 h | rfl), (by intro h; first | exact e18 h | rfl)⟩, hBe, trivial, trivial⟩
              · simp at ho h0
                subst ho
                simp [Region.binds] at hd
                subst h0
                refine wpOp_step rfl (fun K' hK => ?_)
                go_simp
                exact hK _ _ ⟨b0, b1, b2, b3, b4, b5, b6, b7, b8, b9, b10, b11, b12, b13, b14, true, b16, b17, b18, b19, by first | (simp only [tg_t, tg_f]; done) | (simp only [tg_t, tg_f]; omega), rfl, rfl, ⟨(by intro h; first | exact e0 h | rfl), (by intro h; first | exact e1 h | rfl), (by intro h; first | exact e2 h | rfl), (by intro h; first | exact e3 h | rfl), (by intro h; first | exact e4 h | rfl), (by intro h; first | exact e5 h | rfl), (by intro h; first | exact e6 h | rfl), (by intro h; first | exact e7 h | rfl), (by intro h; first | exact e8 h | rfl), (by intro h; first | exact e9 h | rfl), (by intro h; first | exact e10 h | rfl), (by intro h; first | exact e11 h | rfl), (by intro h; first | exact e12 h | rfl), (by intro h; first | exact e13 h | rfl), (by intro h; first | exact e14 h | rfl), (by intro h; first | exact e15 h | rfl), (by intro h; first | exact e16 h | rfl), (by intro h; first | exact e17 h | rfl), (by intro h; first | exact e18 h | rfl)⟩, hBe, trivial, trivial⟩
              · simp at ho h0
                subst ho
                simp [Region.binds] at hd
                subst h0
                refine wpOp_step rfl (fun K' hK => ?_)
                go_simp
                exact hK _ _ ⟨b0, b1, b2, b3, b4, b5, b6, b7, b8, b9, b10, b11, b12, b13, b14, b15, true, b17, b18, b19, by first | (simp only [tg_t, tg_f]; done) | (simp only [tg_t, tg_f]; omega), rfl, rfl, ⟨(by intro h; first | exact e0 h | rfl), (by intro h; first | exact e1 h | rfl), (by intro h; first | exact e2 h | rfl), (by intro h; first | exact e3 h | rfl), (by intro h; first | exact e4 h | rfl), (by intro h; first | exact e5 h | rfl), (by intro h; first | exact e6 h | rfl), (by intro h; first | exact e7 h | rfl), (by intro h; first | exact e8 h | rfl), (by intro h; first | exact e9 h | rfl), (by intro h; first | exact e10 h | rfl), (by intro h; first | exact e11 h | rfl), (by intro h; first | exact e12 h | rfl), (by intro h; first | exact e13 h | rfl), (by intro h; first | exact e14 h | rfl), (by intro h; first | exact e15 h | rfl), (by intro h; first | exact e16 h | rfl), (by intro h; first | exact e17 h | rfl), (by intro h; first | exact e18 h | rfl)⟩, hBe, trivial, trivial⟩
              · simp at ho h0
                subst ho
                simp [Region.binds] at hd
                subst h0
                refine wpOp_step rfl (fun K' hK => ?_)
                have g15 : b15 = true := by first | exact hd | exact hd.1 | exact hd.2 | exact hd.2.1 | exact hd.2.2 | exact hd.2.2.1 | exact hd.2.2.2
                have g16 : b16 = true := by first | exact hd | exact hd.1 | exact hd.2 | exact hd.2.1 | exact hd.2.2 | exact hd.2.2.1 | exact hd.2.2.2
                clear hd
                subst g15 g16
                go_simp
                exact hK _ _ ⟨b0, b1, b2, b3, b4, b5, b6, b7, b8, b9, b10, b11, b12, b13, b14, true, true, true, b18, b19, by first | (simp only [tg_t, tg_f]; done) | (simp only [tg_t, tg_f]; omega), rfl, rfl, ⟨(by intro h; first | exact e0 h | rfl), (by intro h; first | exact e1 h | rfl), (by intro h; first | exact e2 h | rfl), (by intro h; first | exact e3 h | rfl), (by intro h; first | exact e4 h | rfl), (by intro h; first | exact e5 h | rfl), (by intro h; first | exact e6 h | rfl), (by intro h; first | exact e7 h | rfl), (by intro h; first | exact e8 h | rfl), (by intro h; first | exact e9 h | rfl), (by intro h; first | exact e10 h | rfl), (by intro h; first | exact e11 h | rfl), (by intro h; first | exact e12 h | rfl), (by intro h; first | exact e13 h | rfl), (by intro h; first | exact e14 h | rfl), (by intro h; first | exact e15 h | rfl), (by intro h; first | exact e16 h | rfl), (by intro h; first | exact e17 h | rfl), (by intro h; first | exact e18 h | rfl)⟩, hBe, trivial, trivial⟩
              · simp at ho h0
                subst ho
                simp [Region.binds] at hd
                subst h0
                refine wpOp_step rfl (fun K' hK => ?_)
                have g17 : b17 = true := by first | exact hd | exact hd.1 | exact hd.2 | exact hd.2.1 | exact hd.2.2 | exact hd.2.2.1 | exact hd.2.2.2
                clear hd
                subst g17
                obtain rfl := e14 rfl
                obtain rfl := e15 rfl
                have l0 := stay hBe y_0
                have l1 := stay hBe y_1
                have l2 := stay hBe y_2
                have l3 := stay hBe y_3
                have l4 := stay hBe y_4
                go_simp
                exact hK _ _ ⟨b0, b1, b2, b3, b4, b5, b6, b7, b8, b9, b10, b11, b12, b13, b14, true, true, true, true, b19, by first | (simp only [tg_t, tg_f]; done) | (simp only [tg_t, tg_f]; omega), rfl, rfl, ⟨(by intro h; first | exact e0 h | rfl), (by intro h; first | exact e1 h | rfl), (by intro h; first | exact e2 h | rfl), (by intro h; first | exact e3 h | rfl), (by intro h; first | exact e4 h | rfl), (by intro h; first | exact e5 h | rfl), (by intro h; first | exact e6 h | rfl), (by intro h; first | exact e7 h | rfl), (by intro h; first | exact e8 h | rfl), (by intro h; first | exact e9 h | rfl), (by intro h; first | exact e10 h | rfl), (by intro h; first | exact e11 h | rfl), (by intro h; first | exact e12 h | rfl), (by intro h; first | exact e13 h | rfl), (by intro h; first | exact e14 h | rfl), (by intro h; first | exact e15 h | rfl), (by intro h; first | exact e16 h | rfl), (by intro h; first | exact e17 h | rfl), (by intro h; first | exact e18 h | rfl)⟩, hBe, trivial, trivial⟩
              · simp at ho h0
                subst ho
                simp [Region.binds] at hd
                subst h0
                refine wpOp_step rfl (fun K' hK => ?_)
                have g14 : b14 = true := by first | exact hd | exact hd.1 | exact hd.2 | exact hd.2.1 | exact hd.2.2 | exact hd.2.2.1 | exact hd.2.2.2
                have g18 : b18 = true := by first | exact hd | exact hd.1 | exact hd.2 | exact hd.2.1 | exact hd.2.2 | exact hd.2.2.1 | exact hd.2.2.2
                clear hd
                subst g14 g18
                obtain rfl := e13 rfl
                obtain rfl := e16 rfl
                obtain rfl := e11 rfl
                obtain rfl := e12 rfl
                obtain rfl := e14 rfl
                obtain rfl := e15 rfl
                go_simp
                try rw [hX]
                exact hK _ _ ⟨b0, b1, b2, b3, b4, b5, b6, b7, b8, b9, b10, true, true, true, true, true, true, true, true, true, by first | (simp only [tg_t, tg_f]; done) | (simp only [tg_t, tg_f]; omega), rfl, rfl, ⟨(by intro h; first | exact e0 h | rfl), (by intro h; first | exact e1 h | rfl), (by intro h; first | exact e2 h | rfl), (by intro h; first | exact e3 h | rfl), (by intro h; first | exact e4 h | rfl), (by intro h; first | exact e5 h | rfl), (by intro h; first | exact e6 h | rfl), (by intro h; first | exact e7 h | rfl), (by intro h; first | exact e8 h | rfl), (by intro h; first | exact e9 h | rfl), (by intro h; first | exact e10 h | rfl), (by intro h; first | exact e11 h | rfl), (by intro h; first | exact e12 h | rfl), (by intro h; first | exact e13 h | rfl), (by intro h; first | exact e14 h | rfl), (by intro h; first | exact e15 h | rfl), (by intro h; first | exact e16 h | rfl), (by intro h; first | exact e17 h | rfl), (by intro h; first | exact e18 h | rfl)⟩, hBe, trivial, trivial⟩
              · exact (hall (by simp at ho; subst ho; simp [Region.binds] at hd <;> simp_all)).elim
          obtain ⟨rfl, rfl, rfl, rfl, rfl, rfl, rfl, rfl, rfl, rfl, rfl, rfl, rfl, rfl, rfl, rfl, rfl, rfl, rfl, rfl⟩ := hall
          left
          clear e0 e1 e2 e3 e4 e5 e6 e7 e8 e9 e10 e11 e12 e13 e14 e15 e16 e17 e18
          simp only [tg_t, Nat.add_zero]
          refine wpAny_ready (rs := [20]) (by kernel_rfl) (by simp) (AllReady.cons rfl (fun K hK => ?_) AllReady.nil)
          go_simp
          try rw [bne_self_eq_false]
          refine hK _ _ ?_
          clear hK K
          refine wpAny_done (by kernel_rfl) ?_ _
          exact ⟨rfl, rfl, hBe⟩
        · obtain rfl : j = i := by omega
          go_wp2
          go_roundw
          case rel => exact ⟨j + 1, by omega, by go_num, hB'⟩
          case measure => first | (simp [intOf]; done) | (simp [intOf]; omega)
    · obtain rfl : i = l.length := by omega
      have hT := h.of hB
      go_wp2_with (go_at_call 11; (with_reducible refine (alive_any _ hT).mono ?_); rintro e w5 ⟨rfl, hb5⟩)
      go_ret
      exact ⟨rfl, below_trans' hB (Nat.le_refl _) hb5⟩

theorem own : ownKnob Tryd.prog.godebug = none := by kernel_rfl
set_option maxRecDepth 100000 in
theorem lifted (os : Os) (started : os.Started) (H : Type) (enc : TypeId × Value → H) :
    ReturnsInHanded {} Tryd.checked os 6 .any (fun w args => (Rows.disasTextsSpec.pre enc Tryd.prog Tryd.f6 [] false w args ∧ laidMetH Tryd.prog laidAll w) ∧ sizedMet enc Tryd.prog Tryd.f6 (OpenSpec.ofChange Rows.disasTextsSpec) false w args)
      (Rows.disasTextsSpec.post enc Tryd.prog Tryd.f6 false true false false) := by
  refine returnsInHanded_of_change_and (C := Tryd.checked) (X := fun w _ => laidMetH Tryd.prog laidAll w) (fun _ _ _ hh h => h.of_heap hh) own started (by kernel_rfl) Tryd.func6
    (ChangeSpec.witness_shaped (enc := enc) (C := Tryd.checked) (os := os) (X := fun w _ => laidMetH Tryd.prog laidAll w) false (World.doorLaid Tryd.prog 400 os) #[.slice none 0 0] 8 rfl (World.shaped_of_RefB (by kernel_rfl) (by kernel_rfl)) (by kernel_rfl) (by kernel_rfl) (by kernel_rfl) (door_met os _)) ?_
  intro W base args ds gs before hval0 hW _ _ hL _
  have hval : ∀ (j : Nat) t v, Tryd.f6.params[j]? = some t → args[j]? = some v → Value.okWide Tryd.prog W .any base t v := hval0
  have hW' := hW
  obtain ⟨p, q, hA0, hV, rfl, hfz, hnd⟩ := hW
  have hA : DataW.TrodAll enc Tryd.prog W 0 (fun _ => true) true Tryd.f6.params.toList args.toList ds p := hA0
  rw [Tryd.params6] at hA hval
  obtain ⟨v0, vs0, d0, ds0, p0, q0, hargs, rfl, rfl, h0, r0⟩ := trodAll_cons hA
  obtain ⟨rfl, rfl, rfl⟩ := trodAll_nil r0
  obtain rfl : args = #[v0] := by cases args; simp_all
  obtain ⟨rfl, rfl⟩ := trodVars_none hV
  obtain ⟨a0, len, cap, rfl⟩ := okWide_slice Tryd.underlying31 (hval 0 31 v0 rfl rfl)
  have h0k := h0
  obtain ⟨fuel, hf⟩ := h0
  clear hA0 hval0
  simp only [List.append_nil] at hW'
  have hlt : ∀ x ∈ p0, x.block < W.heap.size := fun x hx => by simpa using hW'.lt x hx
  have hTb := tb_of_laid hL
  have fin : ∀ e W', (e = Ending.returned (.bool true) ∧ Below W.heap.size W W') → ∃ v, e = Ending.returned v ∧ Rows.disasTextsSpec.post enc Tryd.checked.prog Tryd.f6 false true false false W #[.slice a0 len cap] v W' := by
    intro e W' ⟨he, hg⟩
    subst he
    exact ⟨_, rfl, _, _, _, [], p0, [], hW', trodAll_mk1 (shut_bool Tryd.underlying4 _), trodAll_mk1 (Below.trod laidOut (by kernel_rfl) (of_decide_eq_true (by kernel_rfl)) h0k hg hlt), rfl, hg.frame _, fun h => by cases h⟩
  have hf' : DataW.trod enc Tryd.prog W 0 (fun _ => true) true fuel 31 [.slice a0 len cap] = some (d0, p0) := hf
  rcases DataW.trod_slice Tryd.underlying31 hf' with ⟨hcs, _⟩ | ⟨a, len', cap', elems, rest, n, _, hcs, _, _, hlc, hm, _⟩
  · simp at hcs
    obtain ⟨rfl, rfl, rfl⟩ := hcs
    exact (walk_nil W hTb).mono fin
  · simp only [List.cons.injEq, Value.slice.injEq, and_true] at hcs
    obtain ⟨rfl, rfl, rfl⟩ := hcs
    unfold maxLen at hm
    by_cases hbig : 60 < len
    · exact (walk_big _ len cap a rfl hbig (by omega) W hTb).mono fin
    by_cases hl0 : len = 0
    · subst hl0
      exact (walk_zero a cap W hTb).mono fin
    · obtain ⟨b, off, spot⟩ := a
      obtain rfl : spot = none := slice_spot hf' (by omega)
      obtain ⟨l, hl, hwf, hc⟩ := open_insns hf'
      subst hl
      have hbW : b < W.heap.size := World.block_lt_of_cell? W _ (hc 0 (by omega)).1
      rcases first_bad l with hok | ⟨m, hmm, hbad, hok⟩
      · exact (walk_yes l b off cap (by omega) (by omega) hwf hok W hTb hc hbW).mono fin
      · exact (walk_no l b off cap m hmm hbad (by omega) (by omega) hwf hok W hTb hc hbW).mono fin
theorem over : Rows.DisasTextsSaid :=
  OpenClaim.holds_of_wide 6 Tryd.f6 rfl rfl rfl rfl rfl rfl rfl ⟨rfl, rfl, rfl, rfl, rfl⟩ rfl rfl rfl rfl rfl (by kernel_rfl) Tryd.func6 (by kernel_rfl)
    (of_decide_eq_true (by kernel_rfl)) (by unfold Func.isWrapper; first | (rw [if_pos (by decide +kernel)]; kernel_rfl) | (rw [if_neg (by decide +kernel)]; exact ⟨rfl, rfl⟩))
    (fun os started H enc _ => lifted os started H enc)
/-- The card: the row, its listed tables tied to the text of the program. -/
theorem proved : Rows.DisasTextsCardSaid :=
  Claim7.holds_tied_plain_at .later [] [.data, .data, .data, .data, .data, .data, .data] true Rows.disasTextsCard.stood.harness Rows.disasTextsCard.stood.looks
    over (fun _ h => by cases h) (by kernel_rfl) (fun _ h => by cases h) disasTexts_row_tie rfl ⟨rfl, rfl⟩ (by kernel_rfl) rfl
    (fun f fn hf hfn => by
      obtain rfl : f = 6 := Option.some.inj ((show Tryd.prog.funcNamed "sacristy/sacristylaw03.DisasTexts" = some 6 by kernel_rfl).symm.trans hf) |>.symm
      obtain rfl : fn = Tryd.f6 := (Option.some.inj (Tryd.func6.symm.trans hfn)).symm
      exact ⟨by kernel_rfl, fun j t ht => by
        rw [Tryd.params6] at ht
        have hm : t ∈ [31] := by simpa using Array.mem_of_getElem? ht
        have hall : ([31].all fun u => !Tryd.prog.wantsStandIn u) = true := by kernel_rfl
        exact (show Tryd.prog.wantsStandIn t = false by simpa using List.all_eq_true.1 hall t hm)⟩)
    (by kernel_rfl)

end Go.Proofs.YtjkagpmepokihaaDoor.disasTexts
