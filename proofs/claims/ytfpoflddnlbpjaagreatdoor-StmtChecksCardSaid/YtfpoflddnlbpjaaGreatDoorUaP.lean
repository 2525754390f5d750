/- Contract of tell. -/
import Derived.Test.YtfpoflddnlbpjaaGreatDoorZgP
import Derived.Deep.AppendLies
import Derived.Test.YtfpoflddnlbpjaaGreatDoorZaP
import Derived.Test.YtfpoflddnlbpjaaGreatDoorZeP
namespace Go.Proofs.YtfpoflddnlbpjaaGreatDoor
open Go.ChangeShapes Go.WideShapes Go.ChangeAt Go.RowKit
set_option linter.unusedVariables false
structure Tl (B : Nat) (w w' : World) (l l' : Value) (T' : List (Tk × Int)) : Prop where
  own : w'.ownsRow B 148 4 l' T'.length (cellsZ T')
  only : Only (fun j => l.ownBlock = some j) w w'
  blk : ∀ j, l'.ownBlock = some j → l.ownBlock = some j ∨ w.heap.size ≤ j
theorem Tl.trans {B : Nat} {a b c : World} {l l1 l2 : Value} {T1 T2 : List (Tk × Int)} (h : Tl B a b l l1 T1) (k : Tl B b c l1 l2 T2) : Tl B a c l l2 T2 :=
  ⟨k.own, h.only.old k.only h.blk, fun j hj => by
    rcases k.blk j hj with h1 | h1
    · exact h.blk j h1
    · exact .inr (Nat.le_trans h.only.size h1)⟩
theorem Tl.pre {B : Nat} {a b c : World} {l l2 : Value} {T2 : List (Tk × Int)} (h : Below a.heap.size a b) (k : Tl B b c l l2 T2) : Tl B a c l l2 T2 :=
  ⟨k.own, (only_below h).trans k.only, fun j hj => by
    rcases k.blk j hj with h1 | h1
    · exact .inl h1
    · exact .inr (Nat.le_trans h.size h1)⟩
theorem Tl.post {B : Nat} {a b c : World} {l l2 : Value} {T2 : List (Tk × Int)} (k : Tl B a b l l2 T2) (h : Below b.heap.size b c) : Tl B a c l l2 T2 :=
  ⟨own_of k.own h, k.only.trans (only_below h), k.blk⟩
def zs (T : List Tk) : List (Tk × Int) := T.map fun t => (t, 0)
def tkC (k : Int) (s : ByteArray) (n : Int) : List Value := [.int .u8 k, .string s, .int .u64 n, .int .i64 0]
theorem Tl.apart {B : Nat} {a b : World} {l l' : Value} {T : List (Tk × Int)} (h : Tl B a b l l' T) {c : Nat} (hc : c < a.heap.size) (hn : l.ownBlock ≠ some c) : l'.ownBlock ≠ some c := fun e => by
  rcases h.blk c e with h1 | h1
  · exact hn h1
  · omega
def TellIH (d : Nat) : Prop := ∀ (x : Xp) (v l : Value) (T : List (Tk × Int)) (B : Nat) (w : World), mayB d x = true → IsE (fun b => b < B) w v x → w.ownsRow B 148 4 l T.length (cellsZ T) → B ≤ w.heap.size → T.length + 5 * x.nodes ≤ 1000000 → ESignsOk w → 9 < B →
    Calls Tryz.prog 182 #[l, v] w fun r w' => ∃ l', r = .returned l' ∧ Tl B w w' l l' (T ++ zs (tellF d x))
theorem od1 {S : Nat → Prop} {W : World} : Only S W W.drew := ⟨rfl, rfl, rfl, Nat.le_refl _, fun _ _ _ => rfl⟩
structure KidIn (B : Nat) (w : World) (b off : Nat) (x : Xp) (ma : Option Addr) (cap : Nat) : Prop where
  lt : b < B
  c0 : w.cell? ⟨b, off, none⟩ = some (.int .u8 (x.k : Int))
  c1 : w.cell? ⟨b, off + 1, none⟩ = some (.int .u64 (x.n : Int))
  c2 : w.cell? ⟨b, off + 2, none⟩ = some (.string (str x.s))
  c3 : w.cell? ⟨b, off + 3, none⟩ = some (.int .u8 (x.o : Int))
  c4 : w.cell? ⟨b, off + 4, none⟩ = some (.slice ma x.l.length cap)
  is : IsE (fun b => b < B) w (.agg #[.int .u8 (x.k : Int), .int .u64 (x.n : Int), .string (str x.s), .int .u8 (x.o : Int), .slice ma x.l.length cap]) x
theorem KidIn.only {B : Nat} {w w' : World} {b off : Nat} {x : Xp} {ma : Option Addr} {cap : Nat} {S : Nat → Prop} (h : KidIn B w b off x ma cap) (ho : Only S w w') (hs : ∀ c, c < B → ¬ S c) : KidIn B w' b off x ma cap :=
  ⟨h.lt, ho.cell (hs _ h.lt) h.c0, ho.cell (hs _ h.lt) h.c1, ho.cell (hs _ h.lt) h.c2, ho.cell (hs _ h.lt) h.c3, ho.cell (hs _ h.lt) h.c4, h.is.only ho hs⟩
end Go.Proofs.YtfpoflddnlbpjaaGreatDoor

/- Contracts of tell, whatever the expression, and of Tell. -/
namespace Go.Proofs.YtfpoflddnlbpjaaGreatDoor
open Go.ChangeShapes Go.WideShapes Go.ChangeAt Go.RowKit
set_option linter.unusedVariables false
def IsB (w : World) (v : Value) (e : Xp) : Prop := IsE (fun b => b < w.heap.size) w v e
theorem IsB.of {w w' : World} {v : Value} {e : Xp} (h : IsB w v e) (hb : Below w.heap.size w w') : IsB w' v e := (h.mono (fun b hb' => Nat.lt_of_lt_of_le hb' hb.size)).of hb
end Go.Proofs.YtfpoflddnlbpjaaGreatDoor

/- Contract of the document's Tell. -/
namespace Go.Proofs.YtfpoflddnlbpjaaGreatDoor
open Go.ChangeShapes Go.WideShapes Go.ChangeAt Go.RowKit
set_option linter.unusedVariables false
theorem rsign_any (o : Nat) (ho : o < 256) (w : World) : Calls Tryz.prog 124 #[.int .u8 (o : Int)] w fun e w' => e = .returned (.string (str (opS o))) ∧ Below w.heap.size w w' := by
  have hw : IntKind.i64.wrap (o : Int) = (o : Int) := by rw [IntKind.wrap_i64]; omega
  by_cases h : o < 15
  · have c0 : (w.alloc (.cells #[.string ⟨#[]⟩, .string ⟨#[43]⟩, .string ⟨#[45]⟩, .string ⟨#[60, 60]⟩, .string ⟨#[60, 36]⟩, .string ⟨#[60]⟩, .string ⟨#[94]⟩, .string ⟨#[62, 62]⟩, .string ⟨#[62, 62, 62]⟩, .string ⟨#[124]⟩, .string ⟨#[38]⟩, .string ⟨#[42]⟩, .string ⟨#[42, 94]⟩, .string ⟨#[47]⟩, .string ⟨#[37]⟩] 9)).cell? ⟨w.heap.size, o, none⟩ = some (.string (str (opS o))) := by
      rw [new_cell]
      have hc : o = 0 ∨ o = 1 ∨ o = 2 ∨ o = 3 ∨ o = 4 ∨ o = 5 ∨ o = 6 ∨ o = 7 ∨ o = 8 ∨ o = 9 ∨ o = 10 ∨ o = 11 ∨ o = 12 ∨ o = 13 ∨ o = 14 := by omega
      rcases hc with rfl | rfl | rfl | rfl | rfl | rfl | rfl | rfl | rfl | rfl | rfl | rfl | rfl | rfl | rfl <;> rfl
    go_enter Tryz.func124, Tryz.ntmps124
    go_wp2
    go_ret
    exact ⟨rfl, aB (Below.refl _ _) _⟩
  · have e : opS o = [] := opS_big (by omega)
    rw [e]
    go_enter Tryz.func124, Tryz.ntmps124
    go_wp2
    go_ret
    exact ⟨rfl, aB (Below.refl _ _) _⟩
def RtP (w : World) (T : List Tk) (r : Ending) (w' : World) : Prop := (∃ g c, r = .returned (.slice (some ⟨g, 0, none⟩) T.length c) ∧ w'.ownsRow w.heap.size 148 4 (.slice (some ⟨g, 0, none⟩) T.length c) T.length (cellsZ (zs T))) ∧ Below w.heap.size w w'
def RtellIH (d : Nat) : Prop := ∀ (x : Xp) (v : Value) (w : World), mayB d x = true → IsB w v x → x.nodes ≤ 100000 → Calls Tryz.prog 78 #[v] w (RtP w (tellF d x))
theorem KidIn.of {B : Nat} {w w' : World} {b off : Nat} {x : Xp} {ma : Option Addr} {cap : Nat} (h : KidIn B w b off x ma cap) (hb : Below w.heap.size w w') : KidIn B w' b off x ma cap := h.only (S := fun _ => False) (only_below hb) (fun _ _ h => h)
theorem KidIn.isB {B : Nat} {w w' : World} {b off : Nat} {x : Xp} {ma : Option Addr} {cap : Nat} (h : KidIn B w b off x ma cap) (hB : B ≤ w.heap.size) (hb : Below w.heap.size w w') : IsB w' (.agg #[.int .u8 (x.k : Int), .int .u64 (x.n : Int), .string (str x.s), .int .u8 (x.o : Int), .slice ma x.l.length cap]) x := (h.of hb).is.mono fun b hb' => Nat.lt_of_lt_of_le hb' (Nat.le_trans hB hb.size)
end Go.Proofs.YtfpoflddnlbpjaaGreatDoor

/- Plain: numbers, signs and names as the document's own answer reads them. -/
namespace Go.Proofs.YtfpoflddnlbpjaaGreatDoor
set_option linter.unusedVariables false
def valA (acc : Nat) : List UInt8 → Nat
  | [] => acc
  | c :: r => valA (10 * acc + (c.toNat - 48)) r
def numR (acc : Nat) : List UInt8 → Option Nat
  | [] => some acc
  | c :: r => if (18446744073709551615 - (c.toNat - 48)) / 10 < acc then none else numR (10 * acc + (c.toNat - 48)) r
def signsR : List (List UInt8) := [[62, 62, 62], [46, 46], [42, 94], [60, 60], [62, 62], [60, 36], [40], [41], [123], [125], [91], [93], [44], [59], [61], [35], [43], [45], [42], [47], [37], [38], [124], [94], [60]]
def sgR (l : List UInt8) : List UInt8 := (signsR.find? fun x => x.isPrefixOf l).getD []
def sortB : Bool := (List.range 25).all fun i => (List.range 25).all fun j => !(decide (i < j)) || decide ((signsR.getD j []).length ≤ (signsR.getD i []).length)
def permB : Bool := signsL.all (fun x => signsR.contains x) && signsR.all (fun x => signsL.contains x)
end Go.Proofs.YtfpoflddnlbpjaaGreatDoor

/- Contracts of the document's own answers of layer 6: bytes, tables, numbers. -/
namespace Go.Proofs.YtfpoflddnlbpjaaGreatDoor
open Go.ChangeShapes Go.WideShapes Go.ChangeAt Go.RowKit
set_option linter.unusedVariables false
theorem rletter_any (c : UInt8) (w : World) : Calls Tryz.prog 84 #[.int .u8 (c.toNat : Int)] w fun e w' => e = .returned (.bool (isL c)) ∧ w = w' := by
  go_enter Tryz.func84, Tryz.ntmps84
  go_wp2
  all_goals
    go_ret
    refine ⟨ret_b ?_, rfl⟩
    unfold isL
    rw [Bool.eq_iff_iff]
    simp
    omega
theorem rdigit_any (c : UInt8) (w : World) : Calls Tryz.prog 86 #[.int .u8 (c.toNat : Int)] w fun e w' => e = .returned (.bool (isD c)) ∧ w = w' := by
  go_enter Tryz.func86, Tryz.ntmps86
  go_wp2
  all_goals
    go_ret
    refine ⟨ret_b ?_, rfl⟩
    unfold isD
    rw [Bool.eq_iff_iff]
    simp
    omega
def TxAt (w : World) (b : Nat) (L : List (List UInt8)) : Prop := ∀ j, j < L.length → w.cell? ⟨b, j, none⟩ = some (.string (str (L.getD j [])))
theorem txs_new (w : World) (L : List (List UInt8)) : TxAt (w.alloc (.cells ((L.map fun x => Value.string (str x)).toArray) 9)) w.heap.size L := fun j hj => by
  rw [new_cell]
  simp [List.getD_eq_getElem?_getD, hj]
theorem TxAt.of {w w' : World} {b : Nat} {L : List (List UInt8)} (h : TxAt w b L) (hb : Below w.heap.size w w') : TxAt w' b L := fun j hj => stay hb (h j hj)
def ctB (L : List (List UInt8)) (l : List UInt8) : Bool := L.contains l
set_option maxRecDepth 100000 in
theorem in_any (L : List (List UInt8)) (b : Nat) (s : ByteArray) (w : World) (hL : L.length ≤ 100) (h : TxAt w b L) (hbl : b < w.heap.size) :
    Calls Tryz.prog 127 #[.slice (some ⟨b, 0, none⟩) L.length L.length, .string s] w fun e w' => e = .returned (.bool (ctB L s.data.toList)) ∧ w = w' := by
  obtain ⟨n, hn⟩ : ∃ n, L.length = n := ⟨_, rfl⟩
  have HC := Lib.hid h
  have HN := Lib.hid hn
  rw [hn] at hL ⊢
  clear h hn
  go_enter Tryz.func127, Tryz.ntmps127
  go_wp2
  go_loop [5] (fun i => ∃ k : Nat, k ≤ n ∧ i = .int .i64 k ∧ ∀ j, j < k → L.getD j [] ≠ s.data.toList) (fun i => n - (intOf i).toNat)
  case atStart => exact ⟨0, by omega, rfl, fun j hj => by omega⟩
  case round =>
    obtain ⟨k, hk, rfl, hno⟩ := hrel
    have HO := Lib.hid hno
    clear hno
    by_cases hlt : k < n
    · have hc := HC.out k (by rw [HN.out]; exact hlt)
      have hq := str_eq_iff (L.getD k []) s
      generalize hz : str (L.getD k []) = z at hc hq
      have HZ := Lib.hid hz
      clear hz
      by_cases he : L.getD k [] = s.data.toList
      · rw [decide_eq_true he] at hq
        have HE := Lib.hid he
        clear he
        go_wp2
        go_ret
        refine ⟨ret_b (Eq.symm ?_), rfl⟩
        exact (mem_getD n HN.out).2 ⟨k, hlt, HE.out⟩
      · rw [decide_eq_false he] at hq
        go_wp2
        go_round
        case rel => exact ⟨k + 1, by omega, by go_num, fun j hj => by
          by_cases e : j = k
          · rw [e]; exact he
          · exact HO.out j (by omega)⟩
        case measure => simp [intOf]; omega
    · obtain rfl : k = n := by omega
      go_wp2
      go_ret
      refine ⟨ret_b (Eq.symm ?_), rfl⟩
      rw [Bool.eq_false_iff]
      intro h
      obtain ⟨j, hj, e⟩ := (mem_getD k HN.out).1 h
      exact HO.out j hj e
theorem words_any (w : World) : Calls Tryz.prog 128 #[] w fun e w' => e = .returned (.slice (some ⟨w.heap.size, 0, none⟩) 16 16) ∧ w' = w.alloc (.cells ((wordsL.map fun x => Value.string (str x)).toArray) 9) := by
  go_enter Tryz.func128, Tryz.ntmps128
  go_wp2
  go_ret
  exact ⟨rfl, rfl⟩
theorem word_any (s : ByteArray) (w : World) : Calls Tryz.prog 85 #[.string s] w fun e w' => e = .returned (.bool (isWd s.data.toList)) ∧ Below w.heap.size w w' := by
  have hI := in_any wordsL w.heap.size s (w.alloc (.cells ((wordsL.map fun x => Value.string (str x)).toArray) 9)) (by decide) (txs_new w wordsL) (by simp)
  have hl : wordsL.length = 16 := rfl
  rw [hl] at hI
  have hW := words_any w
  generalize hX : (w.alloc (.cells ((wordsL.map fun x => Value.string (str x)).toArray) 9)) = W1 at hI hW
  have hB : Below w.heap.size w W1 := by rw [← hX]; exact (Below.refl _ _).alloc (Nat.le_refl _) _
  clear hX hl
  have hct : ctB wordsL s.data.toList = isWd s.data.toList := rfl
  rw [hct] at hI
  go_enter Tryz.func85, Tryz.ntmps85
  go_wp2_with (first | (go_at_call 128; ((with_reducible refine hW.mono ?_); rintro e w1 ⟨rfl, rfl⟩)) | (go_at_call 127; ((with_reducible refine hI.mono ?_); rintro e w2 ⟨rfl, rfl⟩)))
  go_ret
  exact ⟨rfl, hB⟩
end Go.Proofs.YtfpoflddnlbpjaaGreatDoor

/- Contract of the document's own answer of layer 6: Named; it is what lex.Named answers. -/
namespace Go.Proofs.YtfpoflddnlbpjaaGreatDoor
open Go.ChangeShapes Go.WideShapes Go.ChangeAt Go.RowKit
set_option linter.unusedVariables false
structure NameOk (l : List UInt8) : Prop where
  len : l.length ≤ 16
  first : ∃ c r, l = c :: r ∧ isL c = true
  word : isWd l = false
  all : ∀ c ∈ l, isLD c = true
theorem nmdB_yes {l : List UInt8} (h : NameOk l) : nmdB l = true := by
  obtain ⟨c, r, e, hc⟩ := h.first
  have hn : nameP l = .ok ⟨1, l, 0⟩ l := by unfold nameP; rw [if_neg (by have := h.len; omega), h.word]; rfl
  have hok : TkOk ⟨1, l, 0⟩ l := Or.inl ⟨Or.inl rfl, rfl, rfl, hn, h.all, c, r, e, hc⟩
  have hl : 0 < l.length := by rw [e]; simp
  obtain ⟨n, hnl⟩ : ∃ n, l.length = n + 1 := ⟨l.length - 1, by omega⟩
  have h1 := lex_tok l.length [] (by simp) hok [] (by simp) 0
  rw [List.append_nil, List.nil_append] at h1
  have h2 := lex_end n [] (by simp) (0 + ([] : List UInt8).length + l.length)
  rw [← hnl] at h2
  rw [h2] at h1
  unfold nmdB lexT
  rw [if_neg (by have := h.len; omega), h1]
  show (decide (1 = 1) && decide (l = l)) = true
  simp
theorem nmdB_no {l : List UInt8} (h : nmdB l = true) : NameOk l := by
  unfold nmdB at h
  split at h
  · rename_i t a T hx
    simp only [Bool.and_eq_true, decide_eq_true_eq] at h
    obtain ⟨hk, ht⟩ := h
    unfold lexT at hx
    split at hx
    · cases hx
    · obtain ⟨f', hf, h2 | ⟨b, t', m, r, T', hl, hb, hok, hs, hx', e⟩⟩ := lex_inv hx
      · have := h2.2; cases this; simp at hk
      · cases e
        rcases hok with ⟨_, htm, _, hN, hall, c, q, hm, hL⟩ | ⟨h3, _⟩ | ⟨h4, _⟩
        · have hml : m = l := by rw [← htm, ht]
          subst hml
          unfold nameP at hN
          split at hN
          · cases hN
          · rename_i h16
            refine ⟨by omega, ⟨c, q, hm, hL⟩, ?_, hall⟩
            cases hw : isWd m
            · rfl
            · rw [hw] at hN; cases hN; simp at hk
        · omega
        · omega
  · cases h
set_option maxRecDepth 100000 in
set_option maxHeartbeats 4000000 in
theorem rnmd_any (s : ByteArray) (hs : s.size ≤ 140737488355328) (w : World) : Calls Tryz.prog 56 #[.string s] w fun e w' => e = .returned (.bool (nmdB s.data.toList)) ∧ Below w.heap.size w w' := by
  have hsl : s.data.toList.length = s.size := by simp
  obtain ⟨B, hBd⟩ : ∃ B, B = nmdB s.data.toList := ⟨_, rfl⟩
  rw [← hBd]
  have no : ¬ NameOk s.data.toList → B = false := fun h => by
    rw [hBd]
    cases hq : nmdB s.data.toList
    · rfl
    · exact absurd (nmdB_no hq) h
  have yes : NameOk s.data.toList → B = true := fun h => by rw [hBd]; exact nmdB_yes h
  have NO := Lib.hid no
  have YES := Lib.hid yes
  clear no yes hBd
  by_cases h0 : s.size = 0
  · have hse : s = ⟨#[]⟩ := by
      apply ByteArray.ext
      exact Array.eq_empty_of_size_eq_zero h0
    subst hse
    have hf := Lib.hid (NO.out (fun h => by obtain ⟨c, r, e, _⟩ := h.first; cases e))
    clear NO YES hsl h0
    go_enter Tryz.func56, Tryz.ntmps56
    go_wp2
    go_ret
    exact ⟨by rw [hf.out]; rfl, Below.refl _ _⟩
  · have hne : s.data.toList ≠ [] := by intro e; rw [e] at hsl; simp at hsl; omega
    obtain ⟨e1, e2⟩ := list_ne hne
    have hpos : 0 < s.size := by omega
    have hdc := drop_cons s 0 hpos
    rw [List.drop_zero] at hdc
    clear hne h0
    by_cases h16 : 16 < s.size
    · have hf := Lib.hid (NO.out (fun h => by have := h.len; omega))
      clear NO YES hsl hdc
      go_enter Tryz.func56, Tryz.ntmps56
      go_wp2
      go_ret
      exact ⟨by rw [hf.out]; rfl, Below.refl _ _⟩
    · have h16' : s.size ≤ 16 := by omega
      have hl0 := rletter_any (s[0]'hpos)
      have hW := word_any s
      clear h16
      cases hL : isL (s[0]'hpos)
      · rw [hL] at hl0
        have hf := Lib.hid (NO.out (fun h => by obtain ⟨c, r, e, hc⟩ := h.first; rw [hdc] at e; cases e; rw [hL] at hc; cases hc))
        clear NO YES hsl hL hdc
        go_enter Tryz.func56, Tryz.ntmps56
        go_wp2_with (go_at_call 84; ((with_reducible refine (hl0 _).mono ?_); rintro e w1 ⟨rfl, rfl⟩))
        go_ret
        exact ⟨by rw [hf.out]; rfl, Below.refl _ _⟩
      · rw [hL] at hl0
        cases hw : isWd s.data.toList
        · rw [hw] at hW
          have FST := Lib.hid (show ∃ c r, s.data.toList = c :: r ∧ isL c = true from ⟨_, _, hdc, hL⟩)
          have HW := Lib.hid hw
          have HSL := Lib.hid hsl
          clear hL hw hdc hsl
          go_enter Tryz.func56, Tryz.ntmps56
          go_wp2_with (first | (go_at_call 84; ((with_reducible refine (hl0 _).mono ?_); rintro e w1 ⟨rfl, rfl⟩)) | (go_at_call 85; ((with_reducible refine (hW _).mono ?_); rintro e w2 ⟨rfl, hb2⟩)))
          clear hl0 hW
          go_loop [3] (fun i => ∃ k : Nat, k ≤ s.size ∧ i = .int .i64 k ∧ Hid (∀ j, ∀ h : j < s.size, j < k → isLD (s[j]'h) = true)) (fun i => s.size - (intOf i).toNat)
          case atStart => exact ⟨0, Nat.zero_le _, rfl, Lib.hid (fun j h hj => by omega)⟩
          case round =>
            obtain ⟨k, hk, rfl, hall⟩ := hrel
            by_cases hlt : k < s.size
            · have hl2 := rletter_any (s[k]'hlt)
              have hd2 := rdigit_any (s[k]'hlt)
              cases hp : isLD (s[k]'hlt)
              · have hpl : isL (s[k]'hlt) = false ∧ isD (s[k]'hlt) = false := by unfold isLD at hp; simpa using hp
                rw [hpl.1] at hl2
                rw [hpl.2] at hd2
                have hf := Lib.hid (NO.out (fun h => by
                  have := h.all (s[k]'hlt) (List.mem_of_getElem? (byte_at s k hlt))
                  rw [hp] at this; cases this))
                clear hp hpl
                go_wp2_with (first | (go_at_call 84; ((with_reducible refine (hl2 _).mono ?_); rintro e w1 ⟨rfl, rfl⟩)) | (go_at_call 86; ((with_reducible refine (hd2 _).mono ?_); rintro e w1 ⟨rfl, rfl⟩)))
                go_ret
                exact ⟨by rw [hf.out]; rfl, hb2⟩
              · have HP2 := Lib.hid hp
                have hallk : ∀ j, ∀ h : j < s.size, j < k + 1 → isLD (s[j]'h) = true := fun j h hj => by
                  by_cases e : j = k
                  · subst e; exact HP2.out
                  · exact hall.out j h (by omega)
                have HAK := Lib.hid hallk
                clear hallk
                cases hpl : isL (s[k]'hlt)
                · have hpd : isD (s[k]'hlt) = true := by unfold isLD at hp; rw [hpl] at hp; simpa using hp
                  rw [hpl] at hl2
                  rw [hpd] at hd2
                  clear hp hpl hpd
                  go_wp2_with (first | (go_at_call 84; ((with_reducible refine (hl2 _).mono ?_); rintro e w1 ⟨rfl, rfl⟩)) | (go_at_call 86; ((with_reducible refine (hd2 _).mono ?_); rintro e w1 ⟨rfl, rfl⟩)))
                  go_round
                  case rel => exact ⟨k + 1, by omega, by go_num, HAK⟩
                  case measure => simp [intOf]; omega
                · rw [hpl] at hl2
                  clear hp hpl
                  go_wp2_with (first | (go_at_call 84; ((with_reducible refine (hl2 _).mono ?_); rintro e w1 ⟨rfl, rfl⟩)) | (go_at_call 86; ((with_reducible refine (hd2 _).mono ?_); rintro e w1 ⟨rfl, rfl⟩)))
                  go_round
                  case rel => exact ⟨k + 1, by omega, by go_num, HAK⟩
                  case measure => simp [intOf]; omega
            · obtain rfl : k = s.size := by omega
              have hf := Lib.hid (YES.out ⟨by rw [HSL.out]; exact h16', FST.out, HW.out, fun c hc => by
                obtain ⟨i, hi, rfl⟩ := List.getElem_of_mem hc
                have hi' : i < s.size := by rw [← HSL.out]; exact hi
                exact hall.out i hi' hi'⟩)
              go_wp2
              go_ret
              exact ⟨by rw [hf.out]; rfl, hb2⟩
        · rw [hw] at hW
          have hf := Lib.hid (NO.out (fun h => by have := h.word; rw [hw] at this; cases this))
          clear NO YES hsl hL hdc hw
          go_enter Tryz.func56, Tryz.ntmps56
          go_wp2_with (first | (go_at_call 84; ((with_reducible refine (hl0 _).mono ?_); rintro e w1 ⟨rfl, rfl⟩)) | (go_at_call 85; ((with_reducible refine (hW _).mono ?_); rintro e w2 ⟨rfl, hb2⟩)))
          go_ret
          exact ⟨by rw [hf.out]; rfl, hb2⟩
end Go.Proofs.YtfpoflddnlbpjaaGreatDoor
