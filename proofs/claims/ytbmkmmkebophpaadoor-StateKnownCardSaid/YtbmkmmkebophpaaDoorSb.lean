/- Players, shots, states: what may be, the bytes of a state, and the state of bytes: plain. Nothing of the program. -/
import Derived.Test.YtbmkmmkebophpaaDoorSa
import Derived.Test.YtbmkmmkebophpaaDoorRdD
namespace Go.Proofs.YtbmkmmkebophpaaDoor
open Go.RowKit
set_option linter.unusedVariables false

structure Pl where
  x : Int
  y : Int
  vx : Int
  vy : Int
  h : Nat
  c : Nat
  f : Nat
structure Sh where
  x : Int
  y : Int
  vx : Int
  vy : Int
  o : Nat
  l : Nat
structure St where
  fr : Nat
  sd : Nat
  p : Pl
  q : Pl
  ss : List Sh
  s0 : Nat
  s1 : Nat
theorem pl_eq (a b : Pl) : a = b ↔ a.x = b.x ∧ a.y = b.y ∧ a.vx = b.vx ∧ a.vy = b.vy ∧ a.h = b.h ∧ a.c = b.c ∧ a.f = b.f := by cases a; cases b; simp
theorem sh_eq (a b : Sh) : a = b ↔ a.x = b.x ∧ a.y = b.y ∧ a.vx = b.vx ∧ a.vy = b.vy ∧ a.o = b.o ∧ a.l = b.l := by cases a; cases b; simp
theorem st_eq (a b : St) : a = b ↔ a.fr = b.fr ∧ a.sd = b.sd ∧ a.p = b.p ∧ a.q = b.q ∧ a.ss = b.ss ∧ a.s0 = b.s0 ∧ a.s1 = b.s1 := by cases a; cases b; simp
instance decPl (a b : Pl) : Decidable (a = b) := decidable_of_iff _ (pl_eq a b).symm
instance decSh (a b : Sh) : Decidable (a = b) := decidable_of_iff _ (sh_eq a b).symm
instance decSt (a b : St) : Decidable (a = b) := decidable_of_iff _ (st_eq a b).symm
def same (a b : St) : Bool := decide (a = b)

def i32 (z : Int) : Prop := -2147483648 ≤ z ∧ z ≤ 2147483647
def Pl.fit (p : Pl) : Prop := i32 p.x ∧ i32 p.y ∧ i32 p.vx ∧ i32 p.vy ∧ p.h < 256 ∧ p.c < 256 ∧ p.f < 256
def Sh.fit (s : Sh) : Prop := i32 s.x ∧ i32 s.y ∧ i32 s.vx ∧ i32 s.vy ∧ s.o < 256 ∧ s.l < 256
def St.fit (s : St) : Prop := s.fr < 18446744073709551616 ∧ s.sd < 18446744073709551616 ∧ s.p.fit ∧ s.q.fit ∧ (∀ x ∈ s.ss, x.fit) ∧ s.s0 < 65536 ∧ s.s1 < 65536
def Pl.nums (p : Pl) : List Int := [p.x, p.y, p.vx, p.vy, p.h, p.c, p.f]
def Sh.nums (s : Sh) : List Int := [s.x, s.y, s.vx, s.vy, s.o, s.l]
/-- The bounds, in the order of the table. -/
def bds : List (Int × Int) := [(0, 61440), (0, 28672), (-1024, 1024), (-1024, 1024), (1, 100), (0, 30), (0, 3), (0, 65024), (0, 32256), (-2048, 2048), (-2048, 2048), (0, 1), (1, 40)]
def lo (i : Nat) : Int := (bds.getD i (0, 0)).1
def hi (i : Nat) : Int := (bds.getD i (0, 0)).2
def okA (i : Nat) (n : Int) : Bool := decide (lo i ≤ n ∧ n ≤ hi i)
def okF : Nat → List Int → Bool
  | _, [] => true
  | i, n :: r => okA i n && okF (i + 1) r
theorem okF_snoc : ∀ (l : List Int) (i : Nat) (n : Int), okF i (l ++ [n]) = (okF i l && okA (i + l.length) n)
  | [], i, n => by simp [okF]
  | a :: l, i, n => by
    simp only [List.cons_append, okF, okF_snoc l (i + 1) n, List.length_cons, Bool.and_assoc]
    rw [show i + 1 + l.length = i + (l.length + 1) from by omega]
def Pl.good (p : Pl) : Bool := okF 0 p.nums
def Sh.good (s : Sh) : Bool := okF 7 s.nums
def St.good (s : St) : Bool := decide (s.ss.length ≤ 8) && (s.p.good && s.q.good) && s.ss.all Sh.good

/-! Bytes. -/
def un32 (z : Int) : Nat := (z % 4294967296).toNat
theorem un32_lt (z : Int) : un32 z < 4294967296 := by unfold un32; omega
theorem wrap_un32 {z : Int} (h : i32 z) : wrap32 (un32 z : Int) = z := by
  obtain ⟨h1, h2⟩ := h
  unfold un32 wrap32
  omega
theorem un32_wrap {n : Nat} (h : n < 4294967296) : un32 (wrap32 (n : Int)) = n := by
  unfold un32 wrap32
  omega
theorem wrap32_fit (z : Int) : i32 (wrap32 z) := by unfold i32 wrap32; omega
def wd (i : Nat) : Nat := if i < 4 then 4 else 1
def Pl.raw (p : Pl) : List Nat := [un32 p.x, un32 p.y, un32 p.vx, un32 p.vy, p.h, p.c, p.f]
def Sh.raw (s : Sh) : List Nat := [un32 s.x, un32 s.y, un32 s.vx, un32 s.vy, s.o, s.l]
def mkP (v : List Nat) : Pl := ⟨wrap32 (v.getD 0 0), wrap32 (v.getD 1 0), wrap32 (v.getD 2 0), wrap32 (v.getD 3 0), v.getD 4 0, v.getD 5 0, v.getD 6 0⟩
def mkH (v : List Nat) : Sh := ⟨wrap32 (v.getD 0 0), wrap32 (v.getD 1 0), wrap32 (v.getD 2 0), wrap32 (v.getD 3 0), v.getD 4 0, v.getD 5 0⟩
abbrev okN (i : Nat) (n : Nat) : Prop := n < 256 ^ wd i
theorem mkP_raw {p : Pl} (h : p.fit) : mkP p.raw = p := by
  obtain ⟨h1, h2, h3, h4, _⟩ := h
  cases p
  simp_all [mkP, Pl.raw, wrap_un32]
theorem mkH_raw {s : Sh} (h : s.fit) : mkH s.raw = s := by
  obtain ⟨h1, h2, h3, h4, _⟩ := h
  cases s
  simp_all [mkH, Sh.raw, wrap_un32]
theorem raw_okP {p : Pl} (h : p.fit) : okM okN 7 0 p.raw := by
  obtain ⟨_, _, _, _, h5, h6, h7⟩ := h
  exact ⟨_, _, rfl, un32_lt _, _, _, rfl, un32_lt _, _, _, rfl, un32_lt _, _, _, rfl, un32_lt _, _, _, rfl, h5, _, _, rfl, h6, _, _, rfl, h7, rfl⟩
theorem raw_okH {s : Sh} (h : s.fit) : okM okN 6 0 s.raw := by
  obtain ⟨_, _, _, _, h5, h6⟩ := h
  exact ⟨_, _, rfl, un32_lt _, _, _, rfl, un32_lt _, _, _, rfl, un32_lt _, _, _, rfl, un32_lt _, _, _, rfl, h5, _, _, rfl, h6, rfl⟩
theorem raw_mkP {v : List Nat} (h : okM okN 7 0 v) : (mkP v).raw = v ∧ (mkP v).fit := by
  obtain ⟨a0, r, rfl, h0, a1, r, rfl, h1, a2, r, rfl, h2, a3, r, rfl, h3, a4, r, rfl, h4, a5, r, rfl, h5, a6, r, rfl, h6, rfl⟩ := h
  exact ⟨by simp [mkP, Pl.raw, un32_wrap h0, un32_wrap h1, un32_wrap h2, un32_wrap h3], wrap32_fit _, wrap32_fit _, wrap32_fit _, wrap32_fit _, h4, h5, h6⟩
theorem raw_mkH {v : List Nat} (h : okM okN 6 0 v) : (mkH v).raw = v ∧ (mkH v).fit := by
  obtain ⟨a0, r, rfl, h0, a1, r, rfl, h1, a2, r, rfl, h2, a3, r, rfl, h3, a4, r, rfl, h4, a5, r, rfl, h5, rfl⟩ := h
  exact ⟨by simp [mkH, Sh.raw, un32_wrap h0, un32_wrap h1, un32_wrap h2, un32_wrap h3], wrap32_fit _, wrap32_fit _, wrap32_fit _, wrap32_fit _, h4, h5⟩
abbrev eN (i : Nat) (n : Nat) : List UInt8 := le (wd i) n
theorem enM_snoc {α : Type} (e : Nat → α → List UInt8) : ∀ (l : List α) (i : Nat) (x : α), enM e i (l ++ [x]) = enM e i l ++ e (i + l.length) x
  | [], i, x => by simp [enM]
  | a :: l, i, x => by
    simp only [List.cons_append, enM, enM_snoc e l (i + 1) x, List.length_cons, List.append_assoc]
    rw [show i + 1 + l.length = i + (l.length + 1) from by omega]
def pe (p : Pl) : List UInt8 := enM eN 0 p.raw
def he (s : Sh) : List UInt8 := enM eN 0 s.raw
theorem pe_len (p : Pl) : (pe p).length = 19 := by simp [pe, Pl.raw, enM, eN, wd, le_length]
theorem he_len (s : Sh) : (he s).length = 18 := by simp [he, Sh.raw, enM, eN, wd, le_length]
def hes (l : List Sh) : List UInt8 := l.flatMap he
theorem hes_len : ∀ (l : List Sh), (hes l).length = 18 * l.length
  | [] => rfl
  | a :: l => by
    have := hes_len l
    simp only [hes, List.flatMap_cons, List.length_append, he_len, List.length_cons] at this ⊢
    omega
theorem hes_snoc (l : List Sh) (s : Sh) : hes (l ++ [s]) = hes l ++ he s := by simp [hes]
def ste (s : St) : List UInt8 := le 8 s.fr ++ le 8 s.sd ++ (pe s.p ++ pe s.q) ++ vr s.ss.length ++ hes s.ss ++ le 2 s.s0 ++ le 2 s.s1

abbrev pR : List UInt8 → Got (List Nat) := many (fun i => num (wd i)) 7 0
abbrev hR : List UInt8 → Got (List Nat) := many (fun i => num (wd i)) 6 0
def rawR : List UInt8 → Got (List Nat × (List (List Nat) × (Nat × (List (List Nat) × List Nat)))) :=
  seq (many (fun _ => num 8) 2 0) fun _ => seq (many (fun _ => pR) 2 0) fun _ => seq (vd 0) fun n => seq (many (fun _ => hR) n 0) fun _ => many (fun _ => num 2) 2 0
def mkS (x : List Nat × (List (List Nat) × (Nat × (List (List Nat) × List Nat)))) : St :=
  ⟨x.1.getD 0 0, x.1.getD 1 0, mkP (x.2.1.getD 0 []), mkP (x.2.1.getD 1 []), x.2.2.2.1.map mkH, x.2.2.2.2.getD 0 0, x.2.2.2.2.getD 1 0⟩
def rawS (s : St) : List Nat × (List (List Nat) × (Nat × (List (List Nat) × List Nat))) := ([s.fr, s.sd], [s.p.raw, s.q.raw], s.ss.length, s.ss.map Sh.raw, [s.s0, s.s1])
theorem good_p : Good pR (enM eN 0) (okM okN 7 0) := good_many (fun i => num_good (wd i)) 7 0
theorem good_h : Good hR (enM eN 0) (okM okN 6 0) := good_many (fun i => num_good (wd i)) 6 0
theorem good_raw : Good rawR (fun x => enM (fun _ => le 8) 0 x.1 ++ (enM (fun _ => enM eN 0) 0 x.2.1 ++ (vr x.2.2.1 ++ (enM (fun _ => enM eN 0) 0 x.2.2.2.1 ++ enM (fun _ => le 2) 0 x.2.2.2.2))))
    (fun x => okM (fun _ n => n < 256 ^ 8) 2 0 x.1 ∧ (okM (fun _ => okM okN 7 0) 2 0 x.2.1 ∧ (x.2.2.1 < 18446744073709551616 ∧ (okM (fun _ => okM okN 6 0) x.2.2.1 0 x.2.2.2.1 ∧ okM (fun _ n => n < 256 ^ 2) 2 0 x.2.2.2.2)))) :=
  good_seq (good_many (fun _ => num_good 8) 2 0) fun _ => good_seq (good_many (fun _ => good_p) 2 0) fun _ => good_seq vd_good fun n =>
    good_seq (good_many (fun _ => good_h) n 0) fun _ => good_many (fun _ => num_good 2) 2 0
theorem hes_raw : ∀ (l : List Sh) (i : Nat), enM (fun _ => enM eN 0) i (l.map Sh.raw) = hes l
  | [], _ => rfl
  | a :: l, i => by simp only [List.map_cons, enM, hes_raw l (i + 1)]; rfl
theorem ste_raw (s : St) : enM (fun _ => le 8) 0 (rawS s).1 ++ (enM (fun _ => enM eN 0) 0 (rawS s).2.1 ++ (vr (rawS s).2.2.1 ++ (enM (fun _ => enM eN 0) 0 (rawS s).2.2.2.1 ++ enM (fun _ => le 2) 0 (rawS s).2.2.2.2))) = ste s := by
  simp only [rawS, hes_raw, ste, enM, pe, List.append_nil, List.append_assoc]
theorem oks_raw : ∀ (l : List Sh) (i : Nat), (∀ x ∈ l, x.fit) → okM (fun _ => okM okN 6 0) l.length i (l.map Sh.raw)
  | [], _, _ => rfl
  | a :: l, i, h => ⟨_, _, rfl, raw_okH (h a (by simp)), oks_raw l (i + 1) (fun x hx => h x (by simp [hx]))⟩
theorem raw_ok {s : St} (h : s.fit) (hn : s.ss.length < 18446744073709551616) : okM (fun _ n => n < 256 ^ 8) 2 0 (rawS s).1 ∧ (okM (fun _ => okM okN 7 0) 2 0 (rawS s).2.1 ∧ ((rawS s).2.2.1 < 18446744073709551616 ∧ (okM (fun _ => okM okN 6 0) (rawS s).2.2.1 0 (rawS s).2.2.2.1 ∧ okM (fun _ n => n < 256 ^ 2) 2 0 (rawS s).2.2.2.2))) := by
  obtain ⟨h1, h2, h3, h4, h5, h6, h7⟩ := h
  exact ⟨⟨_, _, rfl, h1, _, _, rfl, h2, rfl⟩, ⟨_, _, rfl, raw_okP h3, _, _, rfl, raw_okP h4, rfl⟩, hn, oks_raw _ _ h5, ⟨_, _, rfl, h6, _, _, rfl, h7, rfl⟩⟩
theorem maps_raw : ∀ (l : List Sh), (∀ x ∈ l, x.fit) → (l.map Sh.raw).map mkH = l
  | [], _ => rfl
  | a :: l, h => by
    simp only [List.map_cons, mkH_raw (h a (by simp)), maps_raw l (fun x hx => h x (by simp [hx]))]
theorem mkS_rawS {s : St} (h : s.fit) : mkS (rawS s) = s := by
  obtain ⟨_, _, h3, h4, h5, _⟩ := h
  have e := maps_raw s.ss h5
  rw [st_eq]
  simp only [mkS, rawS, List.getD_cons_zero, List.getD_cons_succ, mkP_raw h3, mkP_raw h4, e, and_self]
theorem raws_maps : ∀ (v : List (List Nat)) (n i : Nat), okM (fun _ => okM okN 6 0) n i v → (v.map mkH).map Sh.raw = v ∧ v.length = n ∧ ∀ x ∈ v.map mkH, x.fit
  | v, 0, i, h => by cases h; simp
  | v, n + 1, i, h => by
    obtain ⟨x, r, rfl, hx, hr⟩ := h
    obtain ⟨e1, e2, e3⟩ := raws_maps r n (i + 1) hr
    obtain ⟨k1, k2⟩ := raw_mkH hx
    refine ⟨by simp only [List.map_cons, k1, e1], by simp [e2], fun y hy => ?_⟩
    simp only [List.map_cons, List.mem_cons] at hy
    rcases hy with rfl | hy
    · exact k2
    · exact e3 y hy

def St.zero : St := ⟨0, 0, ⟨0, 0, 0, 0, 0, 0, 0⟩, ⟨0, 0, 0, 0, 0, 0, 0⟩, [], 0, 0⟩
/-- What Take answers: the error (0: none), the state. -/
def tst (l : List UInt8) : Int × St :=
  if 8 < (rawR l).val.2.2.1 then (4, .zero)
  else if (rawR l).err ≠ 0 then ((rawR l).err, .zero)
  else if (rawR l).rest ≠ [] ∨ (mkS (rawR l).val).good = false then (4, .zero)
  else (0, mkS (rawR l).val)
theorem good_few {s : St} (h : s.good = true) : s.ss.length ≤ 8 := by
  unfold St.good at h
  simp only [Bool.and_eq_true, decide_eq_true_eq] at h
  exact h.1.1
theorem raw_back {s : St} (h : s.fit) (hg : s.good = true) (more : List UInt8) : rawR (ste s ++ more) = ⟨0, rawS s, more⟩ := by
  have := good_few hg
  rw [← ste_raw]
  exact good_raw.yes (rawS s) more (raw_ok h (by omega))
theorem tst_back {s : St} (h : s.fit) (hg : s.good = true) : tst (ste s) = (0, s) := by
  have e := raw_back h hg []
  rw [List.append_nil] at e
  unfold tst
  rw [e]
  rw [if_neg (by show ¬ 8 < s.ss.length; have := good_few hg; omega), if_neg (by simp), if_neg (by simp [mkS_rawS h, hg]), mkS_rawS h]
theorem tst_more {s : St} (h : s.fit) (hg : s.good = true) (b : UInt8) : tst (ste s ++ [b]) = (4, .zero) := by
  unfold tst
  rw [raw_back h hg]
  rw [if_neg (by show ¬ 8 < s.ss.length; have := good_few hg; omega), if_neg (by simp), if_pos (by simp)]
theorem rawS_mkS {x : List Nat × (List (List Nat) × (Nat × (List (List Nat) × List Nat)))} (h1 : okM (fun _ n => n < 256 ^ 8) 2 0 x.1) (h2 : okM (fun _ => okM okN 7 0) 2 0 x.2.1)
    (h4 : okM (fun _ => okM okN 6 0) x.2.2.1 0 x.2.2.2.1) (h5 : okM (fun _ n => n < 256 ^ 2) 2 0 x.2.2.2.2) : (mkS x).fit ∧ rawS (mkS x) = x := by
  obtain ⟨a, b, n, c, d⟩ := x
  dsimp only at h1 h2 h4 h5
  obtain ⟨m1, m2, m3⟩ := raws_maps c n 0 h4
  obtain ⟨a0, ra, rfl, ha0, a1, rb, rfl, ha1, rfl⟩ := h1
  obtain ⟨b0, rb0, rfl, hb0, b1, rb1, rfl, hb1, rfl⟩ := h2
  obtain ⟨d0, rd0, rfl, hd0, d1, rd1, rfl, hd1, rfl⟩ := h5
  have hl : (c.map mkH).length = n := by rw [List.length_map, m2]
  obtain ⟨e0, f0⟩ := raw_mkP hb0
  obtain ⟨e1, f1⟩ := raw_mkP hb1
  clear h4 hb0 hb1
  simp only [mkS, rawS, List.getD_cons_zero, List.getD_cons_succ, e0, e1, m1, hl, and_true]
  exact ⟨by simpa using ha0, by simpa using ha1, f0, f1, m3, by simpa using hd0, by simpa using hd1⟩
theorem tst_one {l : List UInt8} (h : (tst l).1 = 0) : (tst l).2.good = true ∧ (tst l).2.fit ∧ ste (tst l).2 = l := by
  have hone := good_raw.one l
  unfold tst at h ⊢
  generalize rawR l = R at *
  by_cases h1 : 8 < R.val.2.2.1
  · rw [if_pos h1] at h; simp at h
  · rw [if_neg h1] at h ⊢
    by_cases h2 : R.err = 0
    · rw [if_neg (by simp [h2])] at h ⊢
      by_cases h3 : R.rest ≠ [] ∨ (mkS R.val).good = false
      · rw [if_pos h3] at h; simp at h
      · rw [if_neg h3]
        have h4 : R.rest = [] := by
          rcases hr : R.rest with _ | ⟨b, r⟩
          · rfl
          · exact absurd (.inl (by rw [hr]; simp)) h3
        have h5 : (mkS R.val).good = true := by
          cases hg : (mkS R.val).good
          · exact absurd (.inr hg) h3
          · rfl
        obtain ⟨e1, k1, k2, k3, k4, k5⟩ := hone h2
        rw [h4, List.append_nil] at e1
        obtain ⟨f1, f2⟩ := rawS_mkS k1 k2 k4 k5
        refine ⟨h5, f1, ?_⟩
        show ste (mkS R.val) = l
        rw [← ste_raw, f2]
        exact e1.symm
    · rw [if_pos h2] at h; exact absurd h h2
theorem tst_bad {l : List UInt8} (h : (tst l).1 ≠ 0) : (tst l).2 = .zero := by
  unfold tst at h ⊢
  (repeat' split) <;> simp_all
theorem ste_inj {s t : St} (hs : s.fit) (ht : t.fit) (gs : s.good = true) (gt : t.good = true) (h : ste s = ste t) : s = t := by
  have a := tst_back hs gs
  have b := tst_back ht gt
  rw [h, b] at a
  exact (Prod.mk.inj a).2.symm
theorem raw_n (l : List UInt8) : (rawR l).val.2.2.1 = (vd 0 (many (fun _ => pR) 2 0 (many (fun _ => num 8) 2 0 l).rest).rest).val := by simp only [rawR, seq]
/-- A proper beginning of a state's bytes is torn. -/
theorem tst_cut {s : St} (h : s.fit) (hg : s.good = true) (p t : List UInt8) (he : ste s = p ++ t) (ht : t ≠ []) : tst p = (10, .zero) := by
  have h8 := good_few hg
  have hok := raw_ok h (by omega)
  have hc := good_raw.cut (rawS s) p t hok (by rw [ste_raw]; exact he) ht
  have hn : (rawR p).val.2.2.1 ≤ 8 := by
    rw [← ste_raw] at he
    obtain ⟨k1, k2, k3, _⟩ := hok
    rw [raw_n]
    have nil2 : (many (fun _ => pR) 2 0 []).rest = [] := by
      have := (good_many (fun _ : Nat => good_p) 2 0).len []
      exact List.eq_nil_of_length_eq_zero (by simpa using this)
    have vnil : (vd 0 []).val = 0 := rfl
    rcases begin_two he with ⟨u, e1, e2⟩ | ⟨q, rfl, e2⟩
    · obtain ⟨_, c2⟩ := (good_many (fun _ : Nat => num_good 8) 2 0).cut _ p u k1 e1 e2
      rw [c2, nil2, vnil]; omega
    · have y1 := (good_many (fun _ : Nat => num_good 8) 2 0).yes _ q k1
      rw [y1]
      dsimp only
      rcases begin_two e2 with ⟨u, e3, e4⟩ | ⟨q', rfl, e4⟩
      · obtain ⟨_, c2⟩ := (good_many (fun _ : Nat => good_p) 2 0).cut _ q u k2 e3 e4
        rw [c2, vnil]; omega
      · have y2 := (good_many (fun _ : Nat => good_p) 2 0).yes _ q' k2
        rw [y2]
        dsimp only
        rcases begin_two e4 with ⟨u, e5, e6⟩ | ⟨q'', rfl, e6⟩
        · rw [vd_vrF_cut 9 0 _ q' u e5 e6 (by omega)]
          exact Nat.zero_le 8
        · rw [vd_vr _ _ k3]
          exact h8
  unfold tst
  rw [if_neg (by omega), if_pos (by rw [hc.1]; decide), hc.1]
end Go.Proofs.YtbmkmmkebophpaaDoor
