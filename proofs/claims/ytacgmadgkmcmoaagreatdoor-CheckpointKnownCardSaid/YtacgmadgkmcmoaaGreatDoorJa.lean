/- A Write and a Load in plain words: the text of a state, its file, the five steps over a power, what a text tells. Nothing of the program. -/
import Derived.Test.YtacgmadgkmcmoaaGreatDoorPz
import Derived.Test.YtacgmadgkmcmoaaGreatDoorNz
import Derived.Test.YtacgmadgkmcmoaaGreatDoorVa
import Derived.Test.YtacgmadgkmcmoaaGreatDoorAd
import Derived.Test.YtacgmadgkmcmoaaGreatDoorAf
namespace Go.Proofs.YtacgmadgkmcmoaaGreatDoor
open Go.RowKit
set_option linter.unusedVariables false
set_option linter.unusedSimpArgs false
set_option maxRecDepth 20000

/-- The file's name, and the fresh file's. -/
def cN (f : Nat) : List UInt8 := 99 :: hex f
def cF (f : Nat) : List UInt8 := cN f ++ nw
/-- A state's text. -/
def kpay (s : St) : List UInt8 := le 8 s.fr ++ le 8 (djn bas (ste s)) ++ ste s
def ktxt (s : St) : List UInt8 := frm (kpay s)
/-- A step: 0 clear, 1 create, 2 fill, 3 sync, else rename: what is behind it, and its error. -/
def kP (q : Nat) (n m t : List UInt8) (p : Pw) : Nat → Pw
  | 0 => if n ∈ p.names then p.wr 4 q n [] else p
  | 1 => p.wr 0 q n []
  | 2 => p.wr 1 q n t
  | 3 => p.wr 2 q n []
  | _ => p.wr 3 q n m
def kC (q : Nat) (n m t : List UInt8) (p : Pw) : Nat → Nat
  | 0 => if n ∈ p.names then p.wrc 4 q n [] else 0
  | 1 => p.wrc 0 q n []
  | 2 => p.wrc 1 q n t
  | 3 => p.wrc 2 q n []
  | _ => p.wrc 3 q n m
/-- So many steps from one on, up to the first error. -/
def kR (q : Nat) (n m t : List UInt8) : Nat → Nat → Pw → Nat × Pw
  | 0, _, p => (0, p)
  | f + 1, j, p => if kC q n m t p j = 0 then kR q n m t f (j + 1) (kP q n m t p j) else (kC q n m t p j, kP q n m t p j)
theorem kR_go {q : Nat} {n m t : List UInt8} {f j : Nat} {p : Pw} (h : kC q n m t p j = 0) : kR q n m t (f + 1) j p = kR q n m t f (j + 1) (kP q n m t p j) := if_pos h
theorem kR_no {q : Nat} {n m t : List UInt8} {f j : Nat} {p : Pw} (h : kC q n m t p j ≠ 0) : kR q n m t (f + 1) j p = (kC q n m t p j, kP q n m t p j) := if_neg h
theorem kafter_n (p : Pw) (E : List Ent) : (p.after E).n ≤ p.n + 1 := by
  unfold Pw.after
  split
  · omega
  · split <;> simp
theorem kafter_ks (p : Pw) (E : List Ent) : (p.after E).ks = p.ks := by
  unfold Pw.after
  split
  · rfl
  · split <;> rfl
theorem kP_n (q : Nat) (n m t : List UInt8) (p : Pw) (j : Nat) : (kP q n m t p j).n ≤ p.n + 1 := by
  unfold kP
  (repeat' split) <;> first | exact kafter_n _ _ | exact Nat.le_succ _
theorem kP_ks (q : Nat) (n m t : List UInt8) (p : Pw) (j : Nat) : (kP q n m t p j).ks = p.ks := by
  unfold kP
  (repeat' split) <;> first | exact kafter_ks _ _ | rfl
theorem kR_ks (q : Nat) (n m t : List UInt8) : ∀ (f j : Nat) (p : Pw), (kR q n m t f j p).2.ks = p.ks
  | 0, _, _ => rfl
  | f + 1, j, p => by
    unfold kR
    split
    · rw [kR_ks q n m t f, kP_ks]
    · exact kP_ks _ _ _ _ _ _
theorem kR_n (q : Nat) (n m t : List UInt8) : ∀ (f j : Nat) (p : Pw), (kR q n m t f j p).2.n ≤ p.n + f
  | 0, _, _ => Nat.le_refl _
  | f + 1, j, p => by
    have h := kP_n q n m t p j
    unfold kR
    split
    · have := kR_n q n m t f (j + 1) (kP q n m t p j); omega
    · show (kP q n m t p j).n ≤ _; omega
/-- A Write's error, and the power behind it. -/
def kwE (q : Nat) (s : St) (p : Pw) : Nat := if s.good then (if cN s.fr ∈ p.names then 0 else (kR q (cF s.fr) (cN s.fr) (ktxt s) 5 0 p).1) else 4
def kwP (q : Nat) (s : St) (p : Pw) : Pw := if s.good then (if cN s.fr ∈ p.names then p else (kR q (cF s.fr) (cN s.fr) (ktxt s) 5 0 p).2) else p
theorem kw_bad {q : Nat} {s : St} {p : Pw} (h : s.good = false) : kwE q s p = 4 ∧ kwP q s p = p := ⟨if_neg (by rw [h]; decide), if_neg (by rw [h]; decide)⟩
theorem kw_there {q : Nat} {s : St} {p : Pw} (h : s.good = true) (hn : cN s.fr ∈ p.names) : kwE q s p = 0 ∧ kwP q s p = p := by
  unfold kwE kwP; simp only [if_pos h, if_pos hn]; exact ⟨trivial, trivial⟩
theorem kw_go {q : Nat} {s : St} {p : Pw} (h : s.good = true) (hn : ¬ cN s.fr ∈ p.names) : kwE q s p = (kR q (cF s.fr) (cN s.fr) (ktxt s) 5 0 p).1 ∧ kwP q s p = (kR q (cF s.fr) (cN s.fr) (ktxt s) 5 0 p).2 := by
  unfold kwE kwP; simp only [if_pos h, if_neg hn]; exact ⟨trivial, trivial⟩
theorem kwP_ks (q : Nat) (s : St) (p : Pw) : (kwP q s p).ks = p.ks := by
  unfold kwP; (repeat' split) <;> first | exact kR_ks _ _ _ _ _ _ _ | rfl
theorem kwP_n (q : Nat) (s : St) (p : Pw) : (kwP q s p).n ≤ p.n + 5 := by
  unfold kwP; (repeat' split) <;> first | exact kR_n _ _ _ _ _ _ _ | omega
/-- What a payload tells, and what a text does. -/
def ktk (y : List UInt8) (f : Nat) : Int × St :=
  if y.length < 16 then (10, .zero) else if (tst (y.drop 16)).1 ≠ 0 then ((tst (y.drop 16)).1, .zero)
  else if un (y.take 8) ≠ f ∨ (tst (y.drop 16)).2.fr ≠ f then (4, .zero)
  else if un ((y.drop 8).take 8) ≠ djn bas (ste (tst (y.drop 16)).2) then (9, .zero) else (0, (tst (y.drop 16)).2)
def kld (l : List UInt8) (f : Nat) : Int × St :=
  if fe l ≠ 0 then (fe l, .zero) else if 6 + (fp l).length ≠ l.length then (4, .zero) else ktk (fp l) f
/-- What Load answers, what Newest does. -/
def klE (p : Pw) (f : Nat) : Int := if p.rdc (cN f) = 0 then (kld (p.rd (cN f)) f).1 else (p.rdc (cN f) : Nat)
def klS (p : Pw) (f : Nat) : St := if p.rdc (cN f) = 0 then (kld (p.rd (cN f)) f).2 else .zero
def knw (p : Pw) : Nat → List Nat → St × Nat × Int
  | _, [] => (.zero, 0, 5)
  | i, f :: l => if klE p f = 0 then (klS p f, i, 0) else if klE p f = 8 then (.zero, 0, 8) else knw p (i + 1) l
theorem ste_le (s : St) (h : s.good = true) : (ste s).length ≤ 500 := by
  have h8 := good_few h
  have hv := vr_len s.ss.length
  simp only [ste, List.length_append, le_length, pe_len, hes_len]
  omega
theorem kpay_len (s : St) (h : s.good = true) : 16 ≤ (kpay s).length ∧ (kpay s).length ≤ 516 := by
  have := ste_le s h
  simp only [kpay, List.length_append, le_length]
  omega
theorem ktxt_len (s : St) (h : s.good = true) : (ktxt s).length ≤ 522 := by
  have := kpay_len s h
  simp only [ktxt, frm_len]; omega
theorem kpay_cut (s : St) : (kpay s).take 8 = le 8 s.fr ∧ ((kpay s).drop 8).take 8 = le 8 (djn bas (ste s)) ∧ (kpay s).drop 16 = ste s := by
  have e1 : (le 8 s.fr).length = 8 := le_length 8 _
  have e2 : (le 8 (djn bas (ste s))).length = 8 := le_length 8 _
  unfold kpay
  refine ⟨?_, ?_, ?_⟩
  · rw [List.append_assoc, List.take_append_of_le_length (by omega), List.take_of_length_le (by omega)]
  · rw [List.append_assoc, List.drop_append_of_le_length (by omega), List.drop_of_length_le (by omega), List.nil_append, List.take_append_of_le_length (by omega), List.take_of_length_le (by omega)]
  · rw [List.drop_append_of_le_length (by simp [le_length]), List.drop_of_length_le (by simp [le_length]), List.nil_append]
/-- A state's own text tells the state; to another frame it is wrong. -/
theorem ktk_own {s : St} (hf : s.fit) (hg : s.good = true) : ktk (kpay s) s.fr = (0, s) := by
  obtain ⟨h1, h2, h3⟩ := kpay_cut s
  have h4 := kpay_len s hg
  have h5 := tst_back hf hg
  unfold ktk
  rw [if_neg (by omega), h1, h2, h3, h5, un_le, un_le, Nat.mod_eq_of_lt (show s.fr < 256 ^ 8 by simpa using hf.1), Nat.mod_eq_of_lt (show djn bas (ste s) < 256 ^ 8 by have := djn_lt (ste s) bas (by decide); simpa using this)]
  simp
theorem ktk_other {s : St} {f : Nat} (hf : s.fit) (hg : s.good = true) (h : s.fr ≠ f) : ktk (kpay s) f = (4, .zero) := by
  obtain ⟨h1, h2, h3⟩ := kpay_cut s
  have h4 := kpay_len s hg
  have h5 := tst_back hf hg
  unfold ktk
  rw [if_neg (by omega), h3, h5]
  simp [h]
theorem kld_own {s : St} (hf : s.fit) (hg : s.good = true) : kld (ktxt s) s.fr = (0, s) := by
  have h4 := kpay_len s hg
  obtain ⟨e1, e2⟩ := frm_ok (kpay s) [] (by omega)
  rw [List.append_nil] at e1 e2
  unfold kld ktxt
  rw [e1, e2, frm_len, if_neg (by simp), if_neg (by simp)]
  exact ktk_own hf hg
theorem kld_other {s : St} {f : Nat} (hf : s.fit) (hg : s.good = true) (h : s.fr ≠ f) : kld (ktxt s) f = (4, .zero) := by
  have h4 := kpay_len s hg
  obtain ⟨e1, e2⟩ := frm_ok (kpay s) [] (by omega)
  rw [List.append_nil] at e1 e2
  unfold kld ktxt
  rw [e1, e2, frm_len, if_neg (by simp), if_neg (by simp)]
  exact ktk_other hf hg h
theorem kld_more {s : St} {f : Nat} (hg : s.good = true) (b : UInt8) : kld (ktxt s ++ [b]) f = (4, .zero) := by
  have h4 := kpay_len s hg
  obtain ⟨e1, e2⟩ := frm_ok (kpay s) [b] (by omega)
  unfold kld ktxt
  rw [e1, e2, List.length_append, frm_len, if_neg (by simp), if_pos (by simp)]
theorem kld_cut {s : St} {f k : Nat} (hg : s.good = true) (hk : k < (ktxt s).length) : kld ((ktxt s).take k) f = (10, .zero) := by
  have h4 := kpay_len s hg
  unfold ktxt at hk ⊢
  rw [frm_len] at hk
  have e1 := frm_cut (kpay s) [] k (by omega) hk
  rw [List.append_nil] at e1
  unfold kld
  rw [e1, if_pos (by decide)]
/-- Names of numbers are names. -/
theorem dig_nmc {k : Nat} (h : k < 16) : nmc (dig k) = true := by
  have : ∀ i : Fin 16, nmc (dig i.val) = true := by decide
  exact this ⟨k, h⟩
theorem low_nmc : ∀ (k n : Nat), (low k n).all nmc = true
  | 0, _ => rfl
  | k + 1, n => by rw [low, List.all_cons, dig_nmc (Nat.mod_lt _ (by decide)), low_nmc k n]; rfl
theorem cN_len (f : Nat) : (cN f).length = 17 := by simp [cN, hex_len]
theorem cF_len (f : Nat) : (cF f).length = 21 := by simp [cF, cN_len, nw]
theorem cN_nm (f : Nat) : isNm (cN f) = true := by
  unfold isNm
  rw [cN_len]
  simp only [cN, List.all_cons, hex, low_nmc]
  decide
theorem cF_nm (f : Nat) : isNm (cF f) = true := by
  unfold isNm
  rw [cF_len]
  simp only [cF, cN, List.all_append, List.all_cons, hex, low_nmc]
  decide
theorem cN_cF (f g : Nat) : cN f ≠ cF g := fun h => by
  have := congrArg List.length h
  rw [cN_len, cF_len] at this
  omega
theorem cN_inj {f g : Nat} (hf : f < 18446744073709551616) (hg : g < 18446744073709551616) (h : cN f = cN g) : f = g := hex_inj hf hg (by simpa [cN] using h)
end Go.Proofs.YtacgmadgkmcmoaaGreatDoor
