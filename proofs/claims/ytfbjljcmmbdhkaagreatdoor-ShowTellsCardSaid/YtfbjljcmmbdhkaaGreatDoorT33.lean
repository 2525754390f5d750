/- Plain: what is read of a text has no number longer than 64 bits; what is read, and shown, is read as the same. -/
import Derived.Test.YtfbjljcmmbdhkaaGreatDoorT06
import Derived.Test.YtfbjljcmmbdhkaaGreatDoorT32
namespace Go.Proofs.YtfbjljcmmbdhkaaGreatDoor
set_option linter.unusedVariables false
set_option linter.unusedSimpArgs false
set_option maxRecDepth 100000
set_option maxHeartbeats 200000000
def Nums (T : List Tk) : Prop := ∀ t ∈ T, t.k = 3 → t.n < 18446744073709551616
theorem nbS_iff : ∀ {l : List St}, nbS l ↔ ∀ s ∈ l, s.nb
 | [] => by rw [nbS]; simp
 | x :: r => by rw [nbS, nbS_iff (l := r)]; simp
def Jn (l : List (List UInt8)) : List UInt8 := l.flatMap fun x => 32 :: x
theorem Jn_app (a b : List (List UInt8)) : Jn (a ++ b) = Jn a ++ Jn b := by simp [Jn]
theorem Jn_cons (x : List UInt8) (b : List (List UInt8)) : Jn (x :: b) = 32 :: (x ++ Jn b) := by simp [Jn]
theorem Jn_nil : Jn [] = [] := rfl
theorem join_Jn : ∀ (l : List (List UInt8)), Lib.join l [32] = (Jn l).drop 1
 | [] => rfl
 | [x] => by simp [Jn, Lib.join]
 | x :: y :: r => by rw [join_two, join_Jn (y :: r)]; simp [Jn]
theorem pcs_nil : pcs [] = [] := rfl
theorem pcs_sg (m : List UInt8) (r : List Tk) : pcs (sg m :: r) = m :: pcs r := rfl
theorem pcs_nm (m : List UInt8) (r : List Tk) : pcs (nmT m :: r) = m :: pcs r := rfl
theorem pcs_wd (m : List UInt8) (r : List Tk) : pcs (wdT m :: r) = m :: pcs r := rfl
theorem xpT_ne (e : Xp) (h : mayB 40 e = true) : pcs (xpT e) ≠ [] := by
 obtain ⟨k, n, s, o, l⟩ := e
 rw [show (40 : Nat) = 39 + 1 from rfl, mayB, Bool.and_eq_true] at h
 show pcs (tellF (39 + 1) _) ≠ []
 rw [tellF]
 rcases fit_k h.1 with rfl | rfl | rfl | rfl | rfl
 ·rw [if_pos rfl]; exact fun h => by cases h
 ·rw [if_neg (by decide), if_pos rfl]; exact fun h => by cases h
 ·rw [if_neg (by decide), if_neg (by decide), if_neg (by decide), if_neg (by decide), pcs_sg]; exact fun h => by cases h
 ·rw [if_neg (by decide), if_neg (by decide), if_pos rfl]; exact fun h => by cases h
 ·rw [if_neg (by decide), if_neg (by decide), if_neg (by decide), if_pos rfl, pcs_nm]; exact fun h => by cases h
def exR (e : Xp) : List UInt8 := joinT (xpT e)
theorem Jn_ex (e : Xp) (h : mayB 40 e = true) (r : List (List UInt8)) : Jn (exR e :: r) = Jn (pcs (xpT e)) ++ Jn r := by
 rw [Jn_cons]
 unfold exR joinT
 rw [join_Jn]
 cases hp : pcs (xpT e) with
 | nil => exact absurd hp (xpT_ne e h)
 | cons x y => rw [Jn_cons]; rfl
def comR : List (List UInt8) → List (List UInt8)
 | [] => []
 | x :: r => x :: r.flatMap fun y => [[44], y]
theorem com_ex : ∀ (l : List Xp), (∀ e ∈ l, mayB 40 e = true) → Jn (comR (l.map exR)) = Jn (pcs (comT xpT l))
 | [], _ => rfl
 | x :: r, h => by
   have key : ∀ (r : List Xp), (∀ e ∈ r, mayB 40 e = true) → Jn ((r.map exR).flatMap fun y => [[44], y]) = Jn (pcs (r.flatMap fun y => sg [44] :: xpT y)) := by
    intro r
    induction r with
    | nil => intro _; rfl
    | cons y r ih =>
     intro h
     rw [List.map_cons, List.flatMap_cons, List.flatMap_cons, Jn_app, pcs_app, Jn_app, ih (fun e he => h e (List.mem_cons_of_mem _ he)), pcs_sg, Jn_cons, Jn_ex y (h y (List.mem_cons_self ..)), Jn_cons, Jn_nil, List.append_nil]
   show Jn (exR x :: _) = _
   rw [Jn_ex x (h x (List.mem_cons_self ..)), key r (fun e he => h e (List.mem_cons_of_mem _ he))]
   show _ = Jn (pcs (xpT x ++ _))
   rw [pcs_app, Jn_app]
theorem com_nm : ∀ (l : List (List UInt8)), Jn (comR l) = Jn (pcs (comT (fun s => [nmT s]) l))
 | [] => rfl
 | x :: r => by
   have key : ∀ (r : List (List UInt8)), Jn (r.flatMap fun y => [[44], y]) = Jn (pcs (r.flatMap fun y => sg [44] :: [nmT y])) := by
    intro r
    induction r with
    | nil => rfl
    | cons y r ih => rw [List.flatMap_cons, List.flatMap_cons, Jn_app, pcs_app, Jn_app, ih]; rfl
   show Jn (x :: _) = Jn (pcs ([nmT x] ++ _))
   rw [pcs_app, Jn_app, Jn_cons, key r]
   simp [pcs, Jn, nmT, Tk.piece]
def secR (b : Bool) : List (List UInt8) := if b = true then [wSecret] else []
theorem sec_pcs (b : Bool) : pcs (secT b) = secR b := by cases b <;> rfl
def hdR (k : Nat) (nm fr : List UInt8) (sec mu : Bool) (ex : List Xp) (ar : List (List UInt8)) : List (List UInt8) :=
 let e := exR (ex.getD 0 x0)
 let f := exR (ex.getD 1 x0)
 if k = 1 then wLet :: (secR sec ++ [nm, [61], e, [59]])
 else if k = 2 then [nm, [61], e, [59]]
 else if k = 3 then wBuf :: (secR sec ++ [nm, [91], e, [93], [59]])
 else if k = 4 then [nm, [91], e, [93], [61], f, [59]]
 else if k = 5 then [wIf, e, [123]]
 else if k = 6 then [wWhile, e, [123]]
 else if k = 7 then [wFor, nm, [60], e, [123]]
 else if k = 8 then [if mu = true then wEdit else wView, nm, [61], fr, [91], e, [46, 46], f, [93], [123]]
 else if k = 9 then [wMove, nm, [61], fr, [59]]
 else if k = 10 then [wOpen, nm, [61], e, [59]]
 else if k = 11 then wCall :: ((if nm = [] then [] else [nm, [61]]) ++ fr :: [40] :: (comR (ex.map exR) ++ [59] :: (comR ar ++ [[41], [59]])))
 else [wSeal, [59]]
theorem hd_eq {k : Nat} {nm fr : List UInt8} {sec mu : Bool} {ex : List Xp} {ar : List (List UInt8)} {bd el : List St} (hf : fitsB (.mk k nm fr sec mu ex ar bd el) = true) : Jn (hdR k nm fr sec mu ex ar) = Jn (pcs (stH k nm fr sec mu ex ar)) := by
 obtain ⟨⟨hk0, hk⟩, hM, har, hex⟩ := fits_parts hf
 have hkk : k = 1 ∨ k = 2 ∨ k = 3 ∨ k = 4 ∨ k = 5 ∨ k = 6 ∨ k = 7 ∨ k = 8 ∨ k = 9 ∨ k = 10 ∨ k = 11 ∨ k = 12 := by omega
 rcases hkk with rfl | rfl | rfl | rfl | rfl | rfl | rfl | rfl | rfl | rfl | rfl | rfl
 ·obtain ⟨h1, -, -, -, h5, h6, -⟩ := met_parts (show metB (2, 0, true, false, 1, 1, 0, false, false) nm fr sec mu _ _ _ _ = true from hM)
  obtain ⟨e, rfl⟩ := one_of h5 h6
  simp [hdR, stH, e0T, Jn_app, Jn_cons, Jn_nil, pcs_app, pcs_wd, pcs_nm, pcs_sg, pcs_nil, sec_pcs, Jn_ex e (hex e (by simp))]
 ·obtain ⟨h1, -, -, -, h5, h6, -⟩ := met_parts (show metB (2, 0, false, false, 1, 1, 0, false, false) nm fr sec mu _ _ _ _ = true from hM)
  obtain ⟨e, rfl⟩ := one_of h5 h6
  simp [hdR, stH, e0T, Jn_app, Jn_cons, Jn_nil, pcs_app, pcs_nm, pcs_sg, pcs_nil, Jn_ex e (hex e (by simp))]
 ·obtain ⟨h1, -, -, -, h5, h6, -⟩ := met_parts (show metB (2, 0, true, false, 1, 1, 0, false, false) nm fr sec mu _ _ _ _ = true from hM)
  obtain ⟨e, rfl⟩ := one_of h5 h6
  simp [hdR, stH, e0T, Jn_app, Jn_cons, Jn_nil, pcs_app, pcs_wd, pcs_nm, pcs_sg, pcs_nil, sec_pcs, Jn_ex e (hex e (by simp))]
 ·obtain ⟨h1, -, -, -, h5, h6, -⟩ := met_parts (show metB (2, 0, false, false, 2, 2, 0, false, false) nm fr sec mu _ _ _ _ = true from hM)
  obtain ⟨e, f, rfl⟩ := two_of h5 h6
  simp [hdR, stH, e0T, e1T, Jn_app, Jn_cons, Jn_nil, pcs_app, pcs_nm, pcs_sg, pcs_nil, Jn_ex e (hex e (by simp)), Jn_ex f (hex f (by simp))]
 ·obtain ⟨h1, -, -, -, h5, h6, -⟩ := met_parts (show metB (0, 0, false, false, 1, 1, 0, true, true) nm fr sec mu _ _ _ _ = true from hM)
  obtain ⟨e, rfl⟩ := one_of h5 h6
  simp [hdR, stH, e0T, Jn_app, Jn_cons, Jn_nil, pcs_app, pcs_wd, pcs_sg, pcs_nil, Jn_ex e (hex e (by simp))]
 ·obtain ⟨h1, -, -, -, h5, h6, -⟩ := met_parts (show metB (0, 0, false, false, 1, 1, 0, true, false) nm fr sec mu _ _ _ _ = true from hM)
  obtain ⟨e, rfl⟩ := one_of h5 h6
  simp [hdR, stH, e0T, Jn_app, Jn_cons, Jn_nil, pcs_app, pcs_wd, pcs_sg, pcs_nil, Jn_ex e (hex e (by simp))]
 ·obtain ⟨h1, -, -, -, h5, h6, -⟩ := met_parts (show metB (2, 0, false, false, 1, 1, 0, true, false) nm fr sec mu _ _ _ _ = true from hM)
  obtain ⟨e, rfl⟩ := one_of h5 h6
  simp [hdR, stH, e0T, Jn_app, Jn_cons, Jn_nil, pcs_app, pcs_wd, pcs_nm, pcs_sg, pcs_nil, Jn_ex e (hex e (by simp))]
 ·obtain ⟨h1, h2, -, -, h5, h6, -⟩ := met_parts (show metB (2, 2, false, true, 2, 2, 0, true, false) nm fr sec mu _ _ _ _ = true from hM)
  obtain ⟨e, f, rfl⟩ := two_of h5 h6
  simp [hdR, stH, e0T, e1T, Jn_app, Jn_cons, Jn_nil, pcs_app, pcs_wd, pcs_nm, pcs_sg, pcs_nil, Jn_ex e (hex e (by simp)), Jn_ex f (hex f (by simp))]
 ·simp [hdR, stH, pcs_wd, pcs_nm, pcs_sg, pcs_nil]
 ·obtain ⟨h1, -, -, -, h5, h6, -⟩ := met_parts (show metB (2, 0, false, false, 1, 1, 0, false, false) nm fr sec mu _ _ _ _ = true from hM)
  obtain ⟨e, rfl⟩ := one_of h5 h6
  simp [hdR, stH, e0T, Jn_app, Jn_cons, Jn_nil, pcs_app, pcs_wd, pcs_nm, pcs_sg, pcs_nil, Jn_ex e (hex e (by simp))]
 ·by_cases c : nm = []
  ·simp [hdR, stH, c, Jn_app, Jn_cons, Jn_nil, pcs_app, pcs_wd, pcs_nm, pcs_sg, pcs_nil, com_ex ex hex, com_nm ar]
  ·simp [hdR, stH, c, Jn_app, Jn_cons, Jn_nil, pcs_app, pcs_wd, pcs_nm, pcs_sg, pcs_nil, com_ex ex hex, com_nm ar]
 ·rfl
def rlnT (d : Nat) (l : List (List UInt8)) : List UInt8 := List.replicate (2 * d) 32 ++ (Lib.join l [32] ++ [10])
theorem rln_eq {d : Nat} {l : List (List UInt8)} {r : List Tk} (h : Jn l = Jn (pcs r)) : rlnT d l = lnT d r := by
 unfold rlnT lnT joinT
 rw [join_Jn, join_Jn, h]
mutual
def rsT : Nat → St → List UInt8
 | d, .mk k nm fr sec mu ex ar bd el => rlnT d (hdR k nm fr sec mu ex ar) ++ (if 5 ≤ k ∧ k ≤ 8 then rssT (d + 1) bd ++ ((if el.isEmpty = true then [] else rlnT d [[125], wElse, [123]] ++ rssT (d + 1) el) ++ rlnT d [[125]]) else [])
def rssT : Nat → List St → List UInt8
 | _, [] => []
 | d, s :: r => rsT d s ++ rssT d r
end
theorem lns_app (a b : List (Nat × List Tk)) : lnsT (a ++ b) = lnsT a ++ lnsT b := by simp [lnsT]
theorem lns_cons (x : Nat × List Tk) (b : List (Nat × List Tk)) : lnsT (x :: b) = lnT x.1 x.2 ++ lnsT b := by simp [lnsT]
theorem lns_nil : lnsT [] = [] := rfl
mutual
theorem rs_eq : ∀ (d : Nat) (s : St), s.fa → rsT d s = lnsT (stL d s)
 | d, .mk k nm fr sec mu ex ar bd el, hf => by
   rw [St.fa] at hf
   rw [rsT, stL, lns_cons, rln_eq (hd_eq hf.1)]
   congr 1
   by_cases c : 5 ≤ k ∧ k ≤ 8
   ·rw [if_pos c, if_pos c, lns_app, rss_eq (d + 1) bd hf.2.1]
    congr 1
    by_cases c2 : el.isEmpty = true
    ·rw [if_pos c2, if_pos c2]; simp only [List.nil_append]; rw [lns_cons, lns_nil, List.append_nil]; rfl
    ·rw [if_neg c2, if_neg c2, lns_app, lns_cons, lns_cons, lns_nil, List.append_nil, rss_eq (d + 1) el hf.2.2]; rfl
   ·rw [if_neg c, if_neg c]; rfl
theorem rss_eq : ∀ (d : Nat) (l : List St), faS l → rssT d l = lnsT (stsL d l)
 | d, [], _ => by rw [rssT, stsL]; rfl
 | d, s :: r, hf => by rw [faS] at hf; rw [rssT, stsL, lns_app, rs_eq d s hf.1, rss_eq d r hf.2]
end
def pmR (x : Pm) : List (List UInt8) := (if (!x.buf && !x.sec) = true then [wNum] else if (x.buf && x.mu) = true then [wEdit] else if x.buf = true then [wView] else []) ++ (secR x.sec ++ [x.nm])
def psR : List Pm → List (List UInt8)
 | [] => []
 | x :: r => pmR x ++ r.flatMap fun y => [44] :: pmR y
theorem pm_pcs (x : Pm) (hx : pmB x = true) : pcs (pmT x) = pmR x := by
 obtain ⟨nm, buf, sec, mu⟩ := x
 simp only [pmB, Bool.and_eq_true] at hx
 cases mu <;> cases buf <;> cases sec <;> first | rfl | (simp at hx)
theorem ps_pcs : ∀ (l : List Pm), (∀ p ∈ l, pmB p = true) → pcs (comT pmT l) = psR l
 | [], _ => rfl
 | x :: r, h => by
   have key : ∀ (r : List Pm), (∀ p ∈ r, pmB p = true) → pcs (r.flatMap fun y => sg [44] :: pmT y) = r.flatMap fun y => [44] :: pmR y := by
    intro r
    induction r with
    | nil => intro _; rfl
    | cons y r ih =>
     intro h
     rw [List.flatMap_cons, List.flatMap_cons, pcs_app, ih (fun p hp => h p (List.mem_cons_of_mem _ hp)), pcs_sg, pm_pcs y (h y (List.mem_cons_self ..))]
   show pcs (pmT x ++ _) = pmR x ++ _
   rw [pcs_app, pm_pcs x (h x (List.mem_cons_self ..)), key r (fun p hp => h p (List.mem_cons_of_mem _ hp))]
def fhR (f : Fd) : List (List UInt8) := wFn :: f.nm :: [40] :: (psR f.ps ++ [[41], [123]])
def ftR (f : Fd) : List (List UInt8) := [125] :: ((if f.rt.isEmpty = true then [] else [61] :: (secR f.sec ++ [exR (f.rt.getD 0 x0)])) ++ [[59]])
def rfdT (f : Fd) : List UInt8 := rlnT 0 (fhR f) ++ (rssT 1 f.bd ++ rlnT 0 (ftR f))
def rshoT (l : List Fd) : List UInt8 := l.flatMap rfdT
theorem rfd_eq {f : Fd} {a b : Nat} (h : fdC f a = some b) : rfdT f = lnsT (fdL f) := by
 obtain ⟨nm, ps, bd, sec, rt⟩ := f
 change (if (nmdB nm && psB ps && rtB sec rt) = true then blkC 40 bd a else none) = some b at h
 have c : (nmdB nm && psB ps && rtB sec rt) = true := Classical.byContradiction (fun c => by rw [if_neg c] at h; cases h)
 rw [if_pos c] at h
 simp only [psB, Bool.and_eq_true, decide_eq_true_eq, List.all_eq_true] at c
 obtain ⟨⟨c1, c2, c3⟩, c4⟩ := c
 have hd : Jn (fhR ⟨nm, ps, bd, sec, rt⟩) = Jn (pcs (hdT ⟨nm, ps, bd, sec, rt⟩)) := by
  simp [fhR, hdT, pcs_app, pcs_wd, pcs_nm, pcs_sg, pcs_nil, ps_pcs ps c3]
 have tl : Jn (ftR ⟨nm, ps, bd, sec, rt⟩) = Jn (pcs (tlT ⟨nm, ps, bd, sec, rt⟩)) := by
  unfold rtB at c4
  cases rt with
  | nil => rfl
  | cons e r =>
   rw [if_neg (by simp)] at c4
   simp only [Bool.and_eq_true, decide_eq_true_eq, List.all_eq_true, List.length_cons] at c4
   simp [ftR, tlT, e0T, Jn_app, Jn_cons, Jn_nil, pcs_app, pcs_sg, pcs_nil, sec_pcs, Jn_ex e (c4.2 e (by simp))]
 unfold rfdT fdL
 rw [rln_eq hd, rln_eq tl, rss_eq 1 bd (blkC_fa _ _ _ _ h), lns_cons, lns_app, lns_cons, lns_nil, List.append_nil]
theorem rpg_eq : ∀ (l : List Fd) (a b : Nat), pgC l a = some b → rshoT l = lnsT (pgL l)
 | [], _, _, _ => rfl
 | f :: r, a, b, h => by
   rw [pgC] at h
   obtain ⟨y, h1, h2⟩ := bind_parts h
   have e1 : rshoT (f :: r) = rfdT f ++ rshoT r := rfl
   have e2 : pgL (f :: r) = fdL f ++ pgL r := rfl
   rw [e1, e2, lns_app, rfd_eq h1, rpg_eq r y b h2]
theorem rsho_eq (l : List Fd) (h : pgB l = true) : rshoT l = shoT l := by
 simp only [pgB, Bool.and_eq_true, decide_eq_true_eq] at h
 obtain ⟨b, hb⟩ := Option.isSome_iff_exists.1 h.2
 exact rpg_eq l 400 b hb
end Go.Proofs.YtfbjljcmmbdhkaaGreatDoor
