/- Write, by the program: its five steps, the steps in turn, the whole: one contract each. Conditions: the two listed variables lie as they are laid. -/
import Derived.Test.YtacgmadgkmcmoaaGreatDoorJc
import Derived.Test.YtacgmadgkmcmoaaGreatDoorPj
namespace Go.Proofs.YtacgmadgkmcmoaaGreatDoor
open Go.RowKit
set_option linter.unusedVariables false
set_option linter.unusedSimpArgs false
set_option maxRecDepth 20000
theorem PwC.back {S S' : Nat → Prop} {w w' : World} {g q kc : Nat} {dv : Value} {ko : Option Addr} {p p' : Pw} (h' : PwC S' w' g dv q ko kc p') (h : PwC S w g dv q ko kc p) (hk : p'.ks = p.ks) (hs : ∀ x, S' x → S x) : PwC S w' g dv q ko kc p' :=
  ⟨h'.blk, h'.ks, h'.kl, fun a e hn => ⟨(h.kf a e (by rw [← hk]; exact hn)).1, (h'.kf a e hn).2⟩, h.ng, h'.dk.mono fun x _ hx => hs x hx⟩
theorem pn_names {p : Pw} {S : Nat → Prop} {w : World} {g q kc : Nat} {dv : Value} {ko : Option Addr} (h : PwC S w g dv q ko kc p) : p.names.length ≤ 1000 := by
  have := h.dk.good.len
  unfold Pw.names
  split
  · simp
  · rw [List.length_map]; omega
theorem str_yes2' (p : List UInt8) : ((str p).toList == (str p).toList) = true := beq_self_eq_true _
theorem str_no2' {a b : List UInt8} (h : a ≠ b) : ((str a).toList == (str b).toList) = false := by rw [str_toList, str_toList]; simpa using h
/-- Does a list of texts hold one? -/
def IxPost (l : List (List UInt8)) (n : List UInt8) (w : World) (R : Ending) (w' : World) : Prop := w = w' ∧ ((n ∉ l ∧ R = .returned (.int .i64 (-1))) ∨ (n ∈ l ∧ ∃ k : Nat, k < l.length ∧ R = .returned (.int .i64 (k : Int))))
set_option maxHeartbeats 1000000 in
theorem index_c (l : List (List UInt8)) (n : List UInt8) {B : Nat} {v : Value} (w : World) (h : Lst w B v l) (hl : l.length ≤ 1000) :
    Calls Tryz.prog 96 #[v, .string (str n)] w (IxPost l n w) := by
  obtain ⟨uo, uc, rfl⟩ := h.sl
  have HA := Lib.hid h
  obtain ⟨Q, hQ⟩ : ∃ Q, Q = IxPost l n w := ⟨_, rfl⟩
  rw [← hQ]
  have HQ := Lib.hid hQ
  clear hQ h
  go_enter Tryz.func96, Tryz.ntmps96
  go_wp2
  go_loop [8] (fun i => ∃ k : Nat, k ≤ l.length ∧ i = .int .i64 (k : Int) ∧ Hid (∀ j (hj : j < k) (hl : j < l.length), l[j]'hl ≠ n)) (fun i => l.length - (intOf i).toNat)
  case atStart => exact ⟨0, Nat.zero_le _, rfl, fun j hj => by omega⟩
  case round =>
    obtain ⟨k, hk, rfl, HK⟩ := hrel
    by_cases hlt : k < l.length
    · have hlt1 : (k : Int) < (l.length : Int) := by omega
      obtain ⟨g, cp, e, hc⟩ := HA.out.at hlt
      have e1 : uo = some ⟨g, 0, none⟩ := by injection e
      subst e1
      rw [Nat.zero_add] at hc
      by_cases hx : l[k]'hlt = n
      · have hq1 := str_yes2' n
        rw [hx] at hc
        go_wp2_with fail
        rw [HQ.out]
        exact ⟨rfl, .inr ⟨hx ▸ List.getElem_mem hlt, k, hlt, rfl⟩⟩
      · have hq1 := str_no2' (Ne.symm hx)
        have HX := Lib.hid hx
        go_wp2
        go_round
        case rel =>
          refine ⟨k + 1, by omega, by go_num, fun j hj hl => ?_⟩
          by_cases hjk : j = k
          · subst hjk; exact HX.out
          · exact HK.out j (by omega) hl
        case measure => simp [intOf]; omega
    · have hlt1 : ¬ (k : Int) < (l.length : Int) := by omega
      go_wp2_with fail
      rw [HQ.out]
      refine ⟨rfl, .inl ⟨fun hm => ?_, rfl⟩⟩
      obtain ⟨j, hj, rfl⟩ := List.getElem_of_mem hm
      exact HK.out j (by omega) hj rfl
theorem contains_c (l : List (List UInt8)) (n : List UInt8) {B : Nat} {v : Value} (w : World) (h : Lst w B v l) (hl : l.length ≤ 1000) :
    Calls Tryz.prog 46 #[v, .string (str n)] w fun R w' => R = .returned (.bool (decide (n ∈ l))) ∧ w = w' := by
  have HI := Lib.hid (index_c l n w h hl)
  clear h
  by_cases hm : n ∈ l
  · rw [decide_eq_true hm]
    go_enter Tryz.func46, Tryz.ntmps46
    go_wp2_with fail
    refine HI.out.mono ?_
    rintro R w1 ⟨rfl, (⟨h1, _⟩ | ⟨_, k, hk, rfl⟩)⟩
    · exact absurd hm h1
    · go_wp2
      go_ret
      exact ⟨by simp, rfl⟩
  · rw [decide_eq_false hm]
    go_enter Tryz.func46, Tryz.ntmps46
    go_wp2_with fail
    refine HI.out.mono ?_
    rintro R w1 ⟨rfl, (⟨_, rfl⟩ | ⟨h1, _⟩)⟩
    · go_wp2
      go_ret
      exact ⟨rfl, rfl⟩
    · exact absurd h1 hm

/-- What a Write's steps have in common. -/
structure Kx (S : Nat → Prop) (w : World) (g bt bn bp bx bm gl : Nat) (there : Value) (n m t : List UInt8) : Prop where
  r : Cells w bt 47 #[there]
  f : Cells w bn 9 #[.string (str n)]
  p : Cells w bp 38 #[.pointer (some ⟨g, 0, none⟩)]
  x : Cells w bx 9 #[.string (str t)]
  m : Cells w bm 9 #[.string (str m)]
  l : Cells w gl 93 #[.func (.func 48) #[] #[.pointer (some ⟨bt, 0, none⟩), .pointer (some ⟨bn, 0, none⟩), .pointer (some ⟨bp, 0, none⟩)], .func (.func 50) #[] #[.pointer (some ⟨bp, 0, none⟩), .pointer (some ⟨bn, 0, none⟩)], .func (.func 52) #[] #[.pointer (some ⟨bp, 0, none⟩), .pointer (some ⟨bn, 0, none⟩), .pointer (some ⟨bx, 0, none⟩)], .func (.func 54) #[] #[.pointer (some ⟨bp, 0, none⟩), .pointer (some ⟨bn, 0, none⟩)], .func (.func 56) #[] #[.pointer (some ⟨bp, 0, none⟩), .pointer (some ⟨bn, 0, none⟩), .pointer (some ⟨bm, 0, none⟩)]]
  n : ∀ x, x = bt ∨ x = bn ∨ x = bp ∨ x = bx ∨ x = bm ∨ x = gl → ¬ (x = g ∨ S x)
theorem Kx.tu {S : Nat → Prop} {w w' : World} {g bt bn bp bx bm gl : Nat} {there : Value} {n m t : List UInt8} (h : Kx S w g bt bn bp bx bm gl there n m t) (k : Tu (fun x => x = g ∨ S x) w w') : Kx S w' g bt bn bp bx bm gl there n m t :=
  ⟨h.r.tu k (h.n _ (.inl rfl)), h.f.tu k (h.n _ (.inr (.inl rfl))), h.p.tu k (h.n _ (.inr (.inr (.inl rfl)))), h.x.tu k (h.n _ (.inr (.inr (.inr (.inl rfl))))), h.m.tu k (h.n _ (.inr (.inr (.inr (.inr (.inl rfl)))))), h.l.tu k (h.n _ (.inr (.inr (.inr (.inr (.inr rfl)))))), h.n⟩
def KsPost (S : Nat → Prop) (w : World) (g : Nat) (dv : Value) (q : Nat) (ko : Option Addr) (kc : Nat) (n m t : List UInt8) (p : Pw) (j : Nat) (R : Ending) (w' : World) : Prop :=
  R = .returned (.int .i64 (kC q n m t p j : Nat)) ∧ PwC S w' g dv q ko kc (kP q n m t p j) ∧ Tu (fun x => x = g ∨ S x) w w'
section
variable {S : Nat → Prop} {g q bt bn bp bx bm gl : Nat} {dv there : Value} {kc : Nat} {ko : Option Addr} {p : Pw} {n m t : List UInt8}
theorem kstep2_c (w : World) (hx : Kx S w g bt bn bp bx bm gl there n m t) (h : PwC S w g dv q ko kc p) (hS : ∀ x, w.heap.size ≤ x → S x) (hn : n.length ≤ maxLen) (hm : m.length ≤ maxLen) (hl : t.length ≤ maxLen) (hp : p.n < 1000000) :
    Calls Tryz.prog 50 #[.pointer (some ⟨bp, 0, none⟩), .pointer (some ⟨bn, 0, none⟩)] w (KsPost S w g dv q ko kc n m t p 1) := by
  have HC := Lib.hid (pcreate_c n [] w h hS hn (by simp) hp)
  have c0 := hx.p.cell 0
  have c1 := hx.f.cell 0
  clear hx h hS
  go_enter Tryz.func50, Tryz.ntmps50
  go_wp2_with fail
  refine HC.out.mono ?_
  rintro R w1 ⟨rfl, hp1, ht1⟩
  have P1 := Lib.hid hp1
  have T1 := Lib.hid ht1
  clear hp1 ht1
  go_wp2
  go_ret
  exact ⟨rfl, P1.out, T1.out⟩
theorem kstep3_c (w : World) (hx : Kx S w g bt bn bp bx bm gl there n m t) (h : PwC S w g dv q ko kc p) (hS : ∀ x, w.heap.size ≤ x → S x) (hn : n.length ≤ maxLen) (hm : m.length ≤ maxLen) (hl : t.length ≤ maxLen) (hp : p.n < 1000000) :
    Calls Tryz.prog 52 #[.pointer (some ⟨bp, 0, none⟩), .pointer (some ⟨bn, 0, none⟩), .pointer (some ⟨bx, 0, none⟩)] w (KsPost S w g dv q ko kc n m t p 2) := by
  have HC := Lib.hid (pappend_c n t w h hS hn hl hp)
  have c0 := hx.p.cell 0
  have c1 := hx.f.cell 0
  have c2 := hx.x.cell 0
  clear hx h hS
  go_enter Tryz.func52, Tryz.ntmps52
  go_wp2_with fail
  refine HC.out.mono ?_
  rintro R w1 ⟨rfl, hp1, ht1⟩
  have P1 := Lib.hid hp1
  have T1 := Lib.hid ht1
  clear hp1 ht1
  go_wp2
  go_ret
  exact ⟨rfl, P1.out, T1.out⟩
theorem kstep4_c (w : World) (hx : Kx S w g bt bn bp bx bm gl there n m t) (h : PwC S w g dv q ko kc p) (hS : ∀ x, w.heap.size ≤ x → S x) (hn : n.length ≤ maxLen) (hm : m.length ≤ maxLen) (hl : t.length ≤ maxLen) (hp : p.n < 1000000) :
    Calls Tryz.prog 54 #[.pointer (some ⟨bp, 0, none⟩), .pointer (some ⟨bn, 0, none⟩)] w (KsPost S w g dv q ko kc n m t p 3) := by
  have HC := Lib.hid (psync_c n [] w h hS hn (by simp) hp)
  have c0 := hx.p.cell 0
  have c1 := hx.f.cell 0
  clear hx h hS
  go_enter Tryz.func54, Tryz.ntmps54
  go_wp2_with fail
  refine HC.out.mono ?_
  rintro R w1 ⟨rfl, hp1, ht1⟩
  have P1 := Lib.hid hp1
  have T1 := Lib.hid ht1
  clear hp1 ht1
  go_wp2
  go_ret
  exact ⟨rfl, P1.out, T1.out⟩
theorem kstep5_c (w : World) (hx : Kx S w g bt bn bp bx bm gl there n m t) (h : PwC S w g dv q ko kc p) (hS : ∀ x, w.heap.size ≤ x → S x) (hn : n.length ≤ maxLen) (hm : m.length ≤ maxLen) (hl : t.length ≤ maxLen) (hp : p.n < 1000000) :
    Calls Tryz.prog 56 #[.pointer (some ⟨bp, 0, none⟩), .pointer (some ⟨bn, 0, none⟩), .pointer (some ⟨bm, 0, none⟩)] w (KsPost S w g dv q ko kc n m t p 4) := by
  have HC := Lib.hid (prename_c n m w h hS hn hm hp)
  have c0 := hx.p.cell 0
  have c1 := hx.f.cell 0
  have c2 := hx.m.cell 0
  clear hx h hS
  go_enter Tryz.func56, Tryz.ntmps56
  go_wp2_with fail
  refine HC.out.mono ?_
  rintro R w1 ⟨rfl, hp1, ht1⟩
  have P1 := Lib.hid hp1
  have T1 := Lib.hid ht1
  clear hp1 ht1
  go_wp2
  go_ret
  exact ⟨rfl, P1.out, T1.out⟩
theorem kstep1_c (w : World) (hx : Kx S w g bt bn bp bx bm gl there n m t) (h : PwC S w g dv q ko kc p) (hS : ∀ x, w.heap.size ≤ x → S x) (hn : n.length ≤ maxLen) (hp : p.n < 1000000) {B : Nat} (hr : Lst w B there p.names) (hE : p.names.length ≤ 1000) :
    Calls Tryz.prog 48 #[.pointer (some ⟨bt, 0, none⟩), .pointer (some ⟨bn, 0, none⟩), .pointer (some ⟨bp, 0, none⟩)] w (KsPost S w g dv q ko kc n m t p 0) := by
  have HC := Lib.hid (premove_c n [] w h hS hn (by simp) hp)
  have HI := Lib.hid (contains_c p.names n w hr hE)
  have HP := Lib.hid h
  have c0 := hx.r.cell 0
  have c1 := hx.f.cell 0
  have c2 := hx.p.cell 0
  clear hx h hS hr
  by_cases hm : n ∈ p.names
  · have e1 : kC q n m t p 0 = p.wrc 4 q n [] := if_pos hm
    have e2 : kP q n m t p 0 = p.wr 4 q n [] := if_pos hm
    have HM := Lib.hid (And.intro e1 e2)
    rw [decide_eq_true hm] at HI
    clear hm e1 e2
    go_enter Tryz.func48, Tryz.ntmps48
    go_wp2_with fail
    refine HI.out.mono ?_
    rintro R w0 ⟨rfl, rfl⟩
    go_wp2_with fail
    refine HC.out.mono ?_
    rintro R w1 ⟨rfl, hp1, ht1⟩
    have P1 := Lib.hid hp1
    have T1 := Lib.hid ht1
    clear hp1 ht1
    go_wp2
    go_ret
    exact ⟨by rw [HM.out.1]; rfl, by rw [HM.out.2]; exact P1.out, T1.out⟩
  · have e1 : kC q n m t p 0 = 0 := if_neg hm
    have e2 : kP q n m t p 0 = p := if_neg hm
    have HM := Lib.hid (And.intro e1 e2)
    rw [decide_eq_false hm] at HI
    clear hm e1 e2
    go_enter Tryz.func48, Tryz.ntmps48
    go_wp2_with fail
    refine HI.out.mono ?_
    rintro R w0 ⟨rfl, rfl⟩
    go_wp2
    go_ret
    exact ⟨by rw [HM.out.1]; rfl, by rw [HM.out.2]; exact HP.out, Tu.refl _ _⟩
end
/-- The steps in turn. -/
def KnPost (S : Nat → Prop) (w : World) (g : Nat) (dv : Value) (q : Nat) (ko : Option Addr) (kc : Nat) (n m t : List UInt8) (p : Pw) (R : Ending) (w' : World) : Prop :=
  R = .returned (.int .i64 ((kR q n m t 5 0 p).1 : Nat)) ∧ PwC S w' g dv q ko kc (kR q n m t 5 0 p).2 ∧ Tu (fun x => x = g ∨ S x) w w'
set_option maxHeartbeats 8000000 in
theorem kturn_c {S : Nat → Prop} {g q bt bn bp bx bm gl : Nat} {dv there : Value} {kc : Nat} {ko : Option Addr} {p : Pw} {n m t : List UInt8} {B : Nat} (w : World) (hx : Kx S w g bt bn bp bx bm gl there n m t) (h : PwC S w g dv q ko kc p) (hS : ∀ x, w.heap.size ≤ x → S x) (hn : n.length ≤ maxLen) (hm : m.length ≤ maxLen) (hl : t.length ≤ maxLen) (hp : p.n + 5 < 1000000) (hr : Lst w B there p.names) (hE : p.names.length ≤ 1000) :
    Calls Tryz.prog 47 #[.slice (some ⟨gl, 0, none⟩) 5 5] w (KnPost S w g dv q ko kc n m t p) := by
  have HX0 := Lib.hid hx
  have HP0 := Lib.hid h
  have HR0 := Lib.hid hr
  have HS := Lib.hid hS
  have HNL := Lib.hid hn
  have HML := Lib.hid hm
  have HL := Lib.hid hl
  have HN := Lib.hid hp
  have HEL := Lib.hid hE
  obtain ⟨Q, hQ⟩ : ∃ Q, Q = KnPost S w g dv q ko kc n m t p := ⟨_, rfl⟩
  rw [← hQ]
  have HQ := Lib.hid hQ
  clear hx h hS hn hm hl hp hQ hr hE
  go_enter Tryz.func47, Tryz.ntmps47
  go_wp2
  go_loopw [8] (fun iv wr => ∃ (j : Nat) (p' : Pw), j ≤ 5 ∧ iv = .int .i64 (j : Int) ∧ Hid (kR q n m t 5 0 p = kR q n m t (5 - j) j p') ∧ Hid (p'.n ≤ p.n + j) ∧ Hid (j = 0 → p' = p ∧ Lst wr B there p.names) ∧ Hid (PwC S wr g dv q ko kc p') ∧ Hid (Tu (fun x => x = g ∨ S x) w wr) ∧ Hid (Kx S wr g bt bn bp bx bm gl there n m t)) (fun iv _ => 5 - (intOf iv).toNat)
  case atStart => exact ⟨0, p, by omega, rfl, rfl, Nat.le_refl _, fun _ => ⟨rfl, HR0.out⟩, HP0.out, Tu.refl _ _, HX0.out⟩
  case round =>
    obtain ⟨j, p', hj, rfl, HR, HNJ, HJ0, HP, HT, HX⟩ := hrel
    clear HX0 HP0 HR0
    have hj4 : j = 0 ∨ j = 1 ∨ j = 2 ∨ j = 3 ∨ j = 4 ∨ j = 5 := by omega
    rcases hj4 with rfl | rfl | rfl | rfl | rfl | rfl
    · have c1 := HX.out.l.cell 0
      have hin := @enters Tryz.prog 48 _ _ Tryz.func48 (by kernel_rfl) rfl
      simp only [List.getElem?_toArray, List.getElem?_cons_zero, List.getElem?_cons_succ] at c1
      have hpp : p' = p := by first | exact (HJ0.out rfl).1 | exact (HJ0.out trivial).1
      have HRR : Hid (Lst wr B there p'.names) := by rw [hpp]; first | exact (HJ0.out rfl).2 | exact (HJ0.out trivial).2
      have HEE : Hid (p'.names.length ≤ 1000) := by rw [hpp]; exact HEL.out
      clear hpp
      go_wp2_with fail
      refine (kstep1_c wr HX.out HP.out (fun x hx => HS.out x (Nat.le_trans HT.out.size hx)) HNL.out (by have h1 := HNJ.out; have h2 := HN.out; omega) HRR.out HEE.out).mono ?_
      rintro R w1 ⟨rfl, hp1, ht1⟩
      obtain ⟨cj, hcj⟩ : ∃ cj : Nat, cj = kC q n m t p' 0 := ⟨_, rfl⟩
      rw [← hcj]
      have HCJ := Lib.hid hcj
      have P1 : Hid (PwC S w1 g dv q ko kc (kP q n m t p' 0)) := hp1
      have T1 := Lib.hid (HT.out.trans ht1 (fun _ _ h => h))
      have X1 := Lib.hid (HX.out.tu ht1)
      clear hp1 ht1 hcj c1 hin
      by_cases hz : cj = 0
      · have hne : ((cj : Int) != 0) = false := by rw [hz]; rfl
        have HZ := Lib.hid hz
        clear hz
        go_wp2
        go_roundw
        case rel => exact ⟨0 + 1, kP q n m t p' 0, by omega, by go_num, by show _ = _; rw [HR.out]; exact kR_go (by rw [← HCJ.out]; exact HZ.out), by show _ ≤ _; have h1 := kP_n q n m t p' 0; have h2 := HNJ.out; omega, fun e => by omega, P1.out, T1.out, X1.out⟩
        case measure => simp [intOf]
      · have hne : ((cj : Int) != 0) = true := by rw [bne_iff_ne]; omega
        have E : Hid (kR q n m t 5 0 p = (cj, kP q n m t p' 0)) := by
          show _ = _
          rw [HR.out, HCJ.out]
          exact kR_no (by rw [← HCJ.out]; exact hz)
        go_wp2
        rw [HQ.out]
        unfold KnPost
        rw [E.out]
        exact ⟨rfl, P1.out, T1.out⟩
    · have c1 := HX.out.l.cell 1
      have hin := @enters Tryz.prog 50 _ _ Tryz.func50 (by kernel_rfl) rfl
      simp only [List.getElem?_toArray, List.getElem?_cons_zero, List.getElem?_cons_succ] at c1
      go_wp2_with fail
      refine (kstep2_c wr HX.out HP.out (fun x hx => HS.out x (Nat.le_trans HT.out.size hx)) HNL.out HML.out HL.out (by have h1 := HNJ.out; have h2 := HN.out; omega)).mono ?_
      rintro R w1 ⟨rfl, hp1, ht1⟩
      obtain ⟨cj, hcj⟩ : ∃ cj : Nat, cj = kC q n m t p' 1 := ⟨_, rfl⟩
      rw [← hcj]
      have HCJ := Lib.hid hcj
      have P1 : Hid (PwC S w1 g dv q ko kc (kP q n m t p' 1)) := hp1
      have T1 := Lib.hid (HT.out.trans ht1 (fun _ _ h => h))
      have X1 := Lib.hid (HX.out.tu ht1)
      clear hp1 ht1 hcj c1 hin
      by_cases hz : cj = 0
      · have hne : ((cj : Int) != 0) = false := by rw [hz]; rfl
        have HZ := Lib.hid hz
        clear hz
        go_wp2
        go_roundw
        case rel => exact ⟨1 + 1, kP q n m t p' 1, by omega, by go_num, by show _ = _; rw [HR.out]; exact kR_go (by rw [← HCJ.out]; exact HZ.out), by show _ ≤ _; have h1 := kP_n q n m t p' 1; have h2 := HNJ.out; omega, fun e => by omega, P1.out, T1.out, X1.out⟩
        case measure => simp [intOf]
      · have hne : ((cj : Int) != 0) = true := by rw [bne_iff_ne]; omega
        have E : Hid (kR q n m t 5 0 p = (cj, kP q n m t p' 1)) := by
          show _ = _
          rw [HR.out, HCJ.out]
          exact kR_no (by rw [← HCJ.out]; exact hz)
        go_wp2
        rw [HQ.out]
        unfold KnPost
        rw [E.out]
        exact ⟨rfl, P1.out, T1.out⟩
    · have c1 := HX.out.l.cell 2
      have hin := @enters Tryz.prog 52 _ _ Tryz.func52 (by kernel_rfl) rfl
      simp only [List.getElem?_toArray, List.getElem?_cons_zero, List.getElem?_cons_succ] at c1
      go_wp2_with fail
      refine (kstep3_c wr HX.out HP.out (fun x hx => HS.out x (Nat.le_trans HT.out.size hx)) HNL.out HML.out HL.out (by have h1 := HNJ.out; have h2 := HN.out; omega)).mono ?_
      rintro R w1 ⟨rfl, hp1, ht1⟩
      obtain ⟨cj, hcj⟩ : ∃ cj : Nat, cj = kC q n m t p' 2 := ⟨_, rfl⟩
      rw [← hcj]
      have HCJ := Lib.hid hcj
      have P1 : Hid (PwC S w1 g dv q ko kc (kP q n m t p' 2)) := hp1
      have T1 := Lib.hid (HT.out.trans ht1 (fun _ _ h => h))
      have X1 := Lib.hid (HX.out.tu ht1)
      clear hp1 ht1 hcj c1 hin
      by_cases hz : cj = 0
      · have hne : ((cj : Int) != 0) = false := by rw [hz]; rfl
        have HZ := Lib.hid hz
        clear hz
        go_wp2
        go_roundw
        case rel => exact ⟨2 + 1, kP q n m t p' 2, by omega, by go_num, by show _ = _; rw [HR.out]; exact kR_go (by rw [← HCJ.out]; exact HZ.out), by show _ ≤ _; have h1 := kP_n q n m t p' 2; have h2 := HNJ.out; omega, fun e => by omega, P1.out, T1.out, X1.out⟩
        case measure => simp [intOf]
      · have hne : ((cj : Int) != 0) = true := by rw [bne_iff_ne]; omega
        have E : Hid (kR q n m t 5 0 p = (cj, kP q n m t p' 2)) := by
          show _ = _
          rw [HR.out, HCJ.out]
          exact kR_no (by rw [← HCJ.out]; exact hz)
        go_wp2
        rw [HQ.out]
        unfold KnPost
        rw [E.out]
        exact ⟨rfl, P1.out, T1.out⟩
    · have c1 := HX.out.l.cell 3
      have hin := @enters Tryz.prog 54 _ _ Tryz.func54 (by kernel_rfl) rfl
      simp only [List.getElem?_toArray, List.getElem?_cons_zero, List.getElem?_cons_succ] at c1
      go_wp2_with fail
      refine (kstep4_c wr HX.out HP.out (fun x hx => HS.out x (Nat.le_trans HT.out.size hx)) HNL.out HML.out HL.out (by have h1 := HNJ.out; have h2 := HN.out; omega)).mono ?_
      rintro R w1 ⟨rfl, hp1, ht1⟩
      obtain ⟨cj, hcj⟩ : ∃ cj : Nat, cj = kC q n m t p' 3 := ⟨_, rfl⟩
      rw [← hcj]
      have HCJ := Lib.hid hcj
      have P1 : Hid (PwC S w1 g dv q ko kc (kP q n m t p' 3)) := hp1
      have T1 := Lib.hid (HT.out.trans ht1 (fun _ _ h => h))
      have X1 := Lib.hid (HX.out.tu ht1)
      clear hp1 ht1 hcj c1 hin
      by_cases hz : cj = 0
      · have hne : ((cj : Int) != 0) = false := by rw [hz]; rfl
        have HZ := Lib.hid hz
        clear hz
        go_wp2
        go_roundw
        case rel => exact ⟨3 + 1, kP q n m t p' 3, by omega, by go_num, by show _ = _; rw [HR.out]; exact kR_go (by rw [← HCJ.out]; exact HZ.out), by show _ ≤ _; have h1 := kP_n q n m t p' 3; have h2 := HNJ.out; omega, fun e => by omega, P1.out, T1.out, X1.out⟩
        case measure => simp [intOf]
      · have hne : ((cj : Int) != 0) = true := by rw [bne_iff_ne]; omega
        have E : Hid (kR q n m t 5 0 p = (cj, kP q n m t p' 3)) := by
          show _ = _
          rw [HR.out, HCJ.out]
          exact kR_no (by rw [← HCJ.out]; exact hz)
        go_wp2
        rw [HQ.out]
        unfold KnPost
        rw [E.out]
        exact ⟨rfl, P1.out, T1.out⟩
    · have c1 := HX.out.l.cell 4
      have hin := @enters Tryz.prog 56 _ _ Tryz.func56 (by kernel_rfl) rfl
      simp only [List.getElem?_toArray, List.getElem?_cons_zero, List.getElem?_cons_succ] at c1
      go_wp2_with fail
      refine (kstep5_c wr HX.out HP.out (fun x hx => HS.out x (Nat.le_trans HT.out.size hx)) HNL.out HML.out HL.out (by have h1 := HNJ.out; have h2 := HN.out; omega)).mono ?_
      rintro R w1 ⟨rfl, hp1, ht1⟩
      obtain ⟨cj, hcj⟩ : ∃ cj : Nat, cj = kC q n m t p' 4 := ⟨_, rfl⟩
      rw [← hcj]
      have HCJ := Lib.hid hcj
      have P1 : Hid (PwC S w1 g dv q ko kc (kP q n m t p' 4)) := hp1
      have T1 := Lib.hid (HT.out.trans ht1 (fun _ _ h => h))
      have X1 := Lib.hid (HX.out.tu ht1)
      clear hp1 ht1 hcj c1 hin
      by_cases hz : cj = 0
      · have hne : ((cj : Int) != 0) = false := by rw [hz]; rfl
        have HZ := Lib.hid hz
        clear hz
        go_wp2
        go_roundw
        case rel => exact ⟨4 + 1, kP q n m t p' 4, by omega, by go_num, by show _ = _; rw [HR.out]; exact kR_go (by rw [← HCJ.out]; exact HZ.out), by show _ ≤ _; have h1 := kP_n q n m t p' 4; have h2 := HNJ.out; omega, fun e => by omega, P1.out, T1.out, X1.out⟩
        case measure => simp [intOf]
      · have hne : ((cj : Int) != 0) = true := by rw [bne_iff_ne]; omega
        have E : Hid (kR q n m t 5 0 p = (cj, kP q n m t p' 4)) := by
          show _ = _
          rw [HR.out, HCJ.out]
          exact kR_no (by rw [← HCJ.out]; exact hz)
        go_wp2
        rw [HQ.out]
        unfold KnPost
        rw [E.out]
        exact ⟨rfl, P1.out, T1.out⟩
    · have E : Hid (kR q n m t 5 0 p = (0, p')) := HR.out
      go_wp2
      rw [HQ.out]
      unfold KnPost
      rw [E.out]
      exact ⟨rfl, HP.out, HT.out⟩
/-- Write. -/
def KwPost (S : Nat → Prop) (w : World) (g : Nat) (dv : Value) (q : Nat) (ko : Option Addr) (kc : Nat) (s : St) (p : Pw) (R : Ending) (w' : World) : Prop :=
  R = .returned (.int .i64 (kwE q s p : Nat)) ∧ PwC S w' g dv q ko kc (kwP q s p) ∧ Tu (fun x => x = g ∨ S x) w w'
theorem ty_str18 : TyO 9 := tyo_of Tryz.underlying9 rfl (by kernel_rfl)
theorem ty_strs18 : TyO 47 := tyo_of Tryz.underlying47 rfl (by kernel_rfl)
theorem ty_pp18 : TyO 38 := tyo_of Tryz.underlying38 rfl (by kernel_rfl)
theorem st_str18 (p v : Value) : Instr.storeAt 9 p v = stT 9 p v := rfl
theorem st_strs18 (p v : Value) : Instr.storeAt 47 p v = stT 47 p v := rfl
theorem ld_str18 (v : Value) : Instr.loadAt 9 v = ldT 9 v := rfl
theorem ld_strs18 (v : Value) : Instr.loadAt 47 v = ldT 47 v := rfl
theorem ld_pp18 (v : Value) : Instr.loadAt 38 v = ldT 38 v := rfl
attribute [local go_sem ↓] ld_state ld_u64 st_str18 st_strs18 ld_str18 ld_strs18 ld_pp18
set_option maxHeartbeats 8000000 in
theorem kwrite_c {S : Nat → Prop} {g q : Nat} {dv : Value} {kc : Nat} {ko : Option Addr} {p : Pw} (s : St) (ao : Option Addr) (cap : Nat) (w : World) (hp : PwC S w g dv q ko kc p) (hS : ∀ x, w.heap.size ≤ x → S x) (hs : Shs w ao s.ss) (hf : s.fit) (hpn : p.n + 5 < 1000000) (ht : Tab w) (hb : BTab w) :
    Calls Tryz.prog 11 #[.pointer (some ⟨g, 0, none⟩), sv s ao cap] w (KwPost S w g dv q ko kc s p) := by
  have hmf : ∀ (fn : Fn) (first cap : Array Value) (w : World), (Instr.makeFunc fn first cap).run Tryz.prog w = .ok (.func fn first cap) w := fun _ _ _ _ => rfl
  have HT := Lib.hid ht
  have HB := Lib.hid hb
  have HSH := Lib.hid hs
  have HF := Lib.hid hf
  have HP := Lib.hid hp
  have HS := Lib.hid hS
  have HPN := Lib.hid hpn
  have HEL := Lib.hid (pn_names hp)
  have H0 := Lib.hid (Loc.two w 38 34 #[.pointer (some ⟨g, 0, none⟩)] (stc s ao cap))
  obtain ⟨Q, hQ⟩ : ∃ Q : Ending → World → Prop, Q = KwPost S w g dv q ko kc s p := ⟨_, rfl⟩
  rw [← hQ]
  have HQ := Lib.hid hQ
  clear ht hb hs hf hp hS hpn hQ
  cases hg : s.good
  · have HE := Lib.hid (kt_no hg)
    have HO := Lib.hid (kw_bad (q := q) (p := p) hg)
    clear hg
    go_enter Tryz.func11, Tryz.ntmps11
    go_upto_region 1 with fail
    generalize (w.alloc (.cells #[.pointer (some ⟨g, 0, none⟩)] 38)).alloc (.cells (stc s ao cap) 34) = wa at *
    have l0 := H0.out.ldA ty_state 1 rfl 0 (vs := stc s ao cap) rfl (Nat.le_of_ble_eq_true rfl)
    go_wp2_with fail
    refine (kput_c s ao cap wa (Shs_grown HSH.out (grown_of_below (r := none) H0.out.be) (by simp)) HF.out (HT.out.lo H0.out.be) (btab_lo HB.out H0.out.be)).mono ?_
    rintro E w1 ⟨rfl, hb1⟩
    rw [HE.out.1, HE.out.2]
    have h1 := H0.out.to hb1
    obtain ⟨g5, w5, z5, s5, h5, q5⟩ := h1.newO ty_str18 (.string ⟨#[]⟩) (.string (str [])) rfl rfl
    have H5 := Lib.hid h5.be
    clear hb1 l0 H0 h1 h5 q5
    go_wp2
    rw [HQ.out]
    unfold KwPost
    rw [HO.out.1, HO.out.2]
    exact ⟨rfl, HP.out.new H5.out, Tu.new H5.out⟩
  · have HE := Lib.hid (kt_yes hg)
    have HTL := Lib.hid (ktxt_len s hg)
    have HO1 := Lib.hid (fun h => kw_there (q := q) (p := p) hg h)
    have HO2 := Lib.hid (fun h => kw_go (q := q) (p := p) hg h)
    have KN : Hid (∀ W, Calls Tryz.prog 34 #[.int .u64 (s.fr : Int)] W fun R w' => R = .returned (.string (str (cN s.fr))) ∧ Below W.heap.size W w') := fun W => chk_c s.fr W HF.out.1
    have KF : Hid (∀ W, Calls Tryz.prog 38 #[.string (str (cN s.fr))] W fun R w' => R = .returned (.string (str (cF s.fr))) ∧ W = w') := fun W => nnew_c (cN s.fr) W (by rw [cN_len]; decide)
    have HML := Lib.hid (show (cN s.fr).length ≤ maxLen by rw [cN_len]; decide)
    have HNL := Lib.hid (show (cF s.fr).length ≤ maxLen by rw [cF_len]; decide)
    obtain ⟨m, hm⟩ : ∃ m, m = cN s.fr := ⟨_, rfl⟩
    obtain ⟨n, hn⟩ : ∃ n, n = cF s.fr := ⟨_, rfl⟩
    obtain ⟨t, ht⟩ : ∃ t, t = ktxt s := ⟨_, rfl⟩
    rw [← hm] at HO1 HO2 KN KF HML
    rw [← hn] at HO2 KF HNL
    rw [← ht] at HE HTL HO2
    clear hg hm hn ht
    go_enter Tryz.func11, Tryz.ntmps11
    go_upto_region 1 with fail
    generalize (w.alloc (.cells #[.pointer (some ⟨g, 0, none⟩)] 38)).alloc (.cells (stc s ao cap) 34) = wa at *
    have l0 := H0.out.ldA ty_state 1 rfl 0 (vs := stc s ao cap) rfl (Nat.le_of_ble_eq_true rfl)
    go_wp2_with fail
    refine (kput_c s ao cap wa (Shs_grown HSH.out (grown_of_below (r := none) H0.out.be) (by simp)) HF.out (HT.out.lo H0.out.be) (btab_lo HB.out H0.out.be)).mono ?_
    rintro E w1 ⟨rfl, hb1⟩
    rw [HE.out.1, HE.out.2]
    have h1 := H0.out.to hb1
    obtain ⟨g5, w5, z5, s5, h5, q5⟩ := h1.newO ty_str18 (.string ⟨#[]⟩) (.string (str t)) rfl rfl
    have H5 : Hid (Loc w.heap.size w w5 [(w.heap.size, 38, #[.pointer (some ⟨g, 0, none⟩)]), (w.heap.size + 1, 34, stc s ao cap), (g5, 9, #[.string (str t)])]) := h5
    clear hb1 l0 H0 h1 h5 q5
    have l5 := H5.out.ldO ty_u64 1 rfl 0 (v := .int .u64 (s.fr : Int)) rfl
    go_wp2_with fail
    clear s5 z5 l5
    refine (KN.out _).mono ?_
    rintro E w6 ⟨rfl, hb6⟩
    have h6 := H5.out.to hb6
    obtain ⟨g7, w7, z7, s7, h7, q7⟩ := h6.newO ty_str18 (.string ⟨#[]⟩) (.string (str m)) rfl rfl
    have H7 : Hid (Loc w.heap.size w w7 [(w.heap.size, 38, #[.pointer (some ⟨g, 0, none⟩)]), (w.heap.size + 1, 34, stc s ao cap), (g5, 9, #[.string (str t)]), (g7, 9, #[.string (str m)])]) := h7
    clear hb6 h6 h7 q7 H5
    have l7 := H7.out.ldO ty_str18 3 rfl 0 (v := .string (str m)) rfl
    go_wp2_with fail
    clear s7 z7 l7
    refine (KF.out _).mono ?_
    rintro E w' ⟨rfl, rfl⟩
    obtain ⟨g8, w8, z8, s8, h8, q8⟩ := H7.out.newO ty_str18 (.string ⟨#[]⟩) (.string (str n)) rfl rfl
    have H8 : Hid (Loc w.heap.size w w8 [(w.heap.size, 38, #[.pointer (some ⟨g, 0, none⟩)]), (w.heap.size + 1, 34, stc s ao cap), (g5, 9, #[.string (str t)]), (g7, 9, #[.string (str m)]), (g8, 9, #[.string (str n)])]) := h8
    clear h8 q8 H7
    have l8 := H8.out.ldO ty_pp18 0 rfl 0 (v := .pointer (some ⟨g, 0, none⟩)) rfl
    go_wp2_with fail
    clear s8 z8 l8
    refine (plist_c _ (HP.out.new H8.out.be)).mono ?_
    rintro E w9 ⟨u, rfl, hu, hb9⟩
    obtain ⟨uo, uc, rfl⟩ := hu.sl
    have h9 := H8.out.to hb9
    obtain ⟨g10, w10, z10, s10, h10, q10⟩ := h9.newO ty_strs18 (.slice none 0 0) (.slice uo p.names.length uc) rfl rfl
    have HU10 := Lib.hid (hu.new (below_of_grown q10))
    have H10 : Hid (Loc w.heap.size w w10 [(w.heap.size, 38, #[.pointer (some ⟨g, 0, none⟩)]), (w.heap.size + 1, 34, stc s ao cap), (g5, 9, #[.string (str t)]), (g7, 9, #[.string (str m)]), (g8, 9, #[.string (str n)]), (g10, 47, #[.slice uo p.names.length uc])]) := h10
    have KC := Lib.hid (contains_c p.names m w10 HU10.out HEL.out)
    clear hu hb9 h9 h10 q10 H8
    have l10 := H10.out.ldO ty_strs18 5 rfl 0 (v := .slice uo p.names.length uc) rfl
    have l11 := H10.out.ldO ty_str18 3 rfl 0 (v := .string (str m)) rfl
    obtain ⟨N, hN⟩ : ∃ N, N = p.names := ⟨_, rfl⟩
    by_cases hmm : m ∈ p.names
    · have HO := Lib.hid (HO1.out hmm)
      rw [decide_eq_true hmm] at KC
      clear hmm HO1 HO2 hN
      go_wp2_with fail
      clear s10 z10
      refine KC.out.mono ?_
      rintro E w' ⟨rfl, rfl⟩
      clear l10 l11
      go_wp2
      rw [HQ.out]
      unfold KwPost
      rw [HO.out.1, HO.out.2]
      exact ⟨rfl, HP.out.new H10.out.be, Tu.new H10.out.be⟩
    · have HO := Lib.hid (HO2.out hmm)
      rw [decide_eq_false hmm] at KC
      clear hmm HO1 HO2 hN
      go_wp2_with fail
      clear s10 z10
      refine KC.out.mono ?_
      rintro E w' ⟨rfl, rfl⟩
      clear l10 l11
      have HW11 := Lib.hid (kb_alloc w10 (.cells #[.func (.func 48) #[] #[.pointer (some ⟨g10, 0, none⟩), .pointer (some ⟨g8, 0, none⟩), .pointer (some ⟨w.heap.size, 0, none⟩)], .func (.func 50) #[] #[.pointer (some ⟨w.heap.size, 0, none⟩), .pointer (some ⟨g8, 0, none⟩)], .func (.func 52) #[] #[.pointer (some ⟨w.heap.size, 0, none⟩), .pointer (some ⟨g8, 0, none⟩), .pointer (some ⟨g5, 0, none⟩)], .func (.func 54) #[] #[.pointer (some ⟨w.heap.size, 0, none⟩), .pointer (some ⟨g8, 0, none⟩)], .func (.func 56) #[] #[.pointer (some ⟨w.heap.size, 0, none⟩), .pointer (some ⟨g8, 0, none⟩), .pointer (some ⟨g7, 0, none⟩)]] 93))
      have HC11 := Lib.hid (Cells.made w10 93 #[.func (.func 48) #[] #[.pointer (some ⟨g10, 0, none⟩), .pointer (some ⟨g8, 0, none⟩), .pointer (some ⟨w.heap.size, 0, none⟩)], .func (.func 50) #[] #[.pointer (some ⟨w.heap.size, 0, none⟩), .pointer (some ⟨g8, 0, none⟩)], .func (.func 52) #[] #[.pointer (some ⟨w.heap.size, 0, none⟩), .pointer (some ⟨g8, 0, none⟩), .pointer (some ⟨g5, 0, none⟩)], .func (.func 54) #[] #[.pointer (some ⟨w.heap.size, 0, none⟩), .pointer (some ⟨g8, 0, none⟩)], .func (.func 56) #[] #[.pointer (some ⟨w.heap.size, 0, none⟩), .pointer (some ⟨g8, 0, none⟩), .pointer (some ⟨g7, 0, none⟩)]])
      go_wp2_with fail
      generalize w10.alloc (.cells #[.func (.func 48) #[] #[.pointer (some ⟨g10, 0, none⟩), .pointer (some ⟨g8, 0, none⟩), .pointer (some ⟨w.heap.size, 0, none⟩)], .func (.func 50) #[] #[.pointer (some ⟨w.heap.size, 0, none⟩), .pointer (some ⟨g8, 0, none⟩)], .func (.func 52) #[] #[.pointer (some ⟨w.heap.size, 0, none⟩), .pointer (some ⟨g8, 0, none⟩), .pointer (some ⟨g5, 0, none⟩)], .func (.func 54) #[] #[.pointer (some ⟨w.heap.size, 0, none⟩), .pointer (some ⟨g8, 0, none⟩)], .func (.func 56) #[] #[.pointer (some ⟨w.heap.size, 0, none⟩), .pointer (some ⟨g8, 0, none⟩), .pointer (some ⟨g7, 0, none⟩)]] 93) = w11 at *
      have hlt := HP.out.lt
      have h11 := H10.out.to HW11.out
      have hsz := h11.be.size
      have hx : Kx (fun x => S x ∧ (x < w.heap.size ∨ w11.heap.size ≤ x)) w11 g g10 g8 w.heap.size g5 g7 w10.heap.size (.slice uo p.names.length uc) n m t := by
        refine ⟨h11.get 5 rfl, h11.get 4 rfl, h11.get 0 rfl, h11.get 2 rfl, h11.get 3 rfl, HC11.out, fun x hx => ?_⟩
        have e0 := (h11.get 0 rfl).lt
        have e2 := (h11.get 2 rfl).lt
        have e3 := (h11.get 3 rfl).lt
        have e4 := (h11.get 4 rfl).lt
        have e5 := (h11.get 5 rfl).lt
        have e8 := HC11.out.lt
        have g2 := h11.ge _ (List.mem_of_getElem? (show _[2]? = some (g5, _, _) from rfl))
        have g3 := h11.ge _ (List.mem_of_getElem? (show _[3]? = some (g7, _, _) from rfl))
        have g4 := h11.ge _ (List.mem_of_getElem? (show _[4]? = some (g8, _, _) from rfl))
        have g5' := h11.ge _ (List.mem_of_getElem? (show _[5]? = some (g10, _, _) from rfl))
        have g8' := H10.out.be.size
        rintro (e | ⟨_, e⟩)
        · rcases hx with rfl | rfl | rfl | rfl | rfl | rfl <;> omega
        · rcases hx with rfl | rfl | rfl | rfl | rfl | rfl <;> omega
      refine (kturn_c w11 hx ((HP.out.mono (S' := fun x => S x ∧ (x < w.heap.size ∨ w11.heap.size ≤ x)) fun x hx => ⟨fun h => ⟨h, .inl hx⟩, fun h => h.1⟩).new h11.be) (fun x hx => ⟨HS.out x (Nat.le_trans hsz hx), .inr hx⟩) HNL.out HML.out (by have := HTL.out; simp only [maxLen]; omega) HPN.out (HU10.out.new HW11.out) HEL.out).mono ?_
      rintro E w12 ⟨rfl, hp9, ht9⟩
      have HP9 := Lib.hid (hp9.back HP.out (kR_ks _ _ _ _ _ _ _) fun x hx => hx.1)
      have HT9 := Lib.hid ((Tu.new (S := fun x => x = g ∨ S x) h11.be).trans ht9 (fun x _ hx => hx.imp id And.left))
      clear hp9 ht9 hx h11 hsz hlt hmf
      go_wp2
      rw [HQ.out]
      unfold KwPost
      rw [HO.out.1, HO.out.2]
      exact ⟨rfl, HP9.out, HT9.out⟩
end Go.Proofs.YtacgmadgkmcmoaaGreatDoor
