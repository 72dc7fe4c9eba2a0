/- A disk as the statements make it: whether it may be gone through; both powers over it: one contract each. -/
import Derived.Test.YtacgmadgkmcmoaaGreatDoorPn
import Derived.Test.YtacgmadgkmcmoaaGreatDoorJx
import Derived.StillTailTactics
namespace Go.Proofs.YtacgmadgkmcmoaaGreatDoor
open Go.RowKit
set_option linter.unusedVariables false
set_option linter.unusedSimpArgs false
set_option maxRecDepth 20000
/-- Files in a row, read where they lie. -/
def FsAt (w : World) (lo : Option Addr) (L : List (List UInt8 × List UInt8)) : Prop :=
  ∀ k (h : k < L.length), (L[k]'h).1.length ≤ maxLen ∧ (L[k]'h).2.length ≤ maxLen ∧ ∃ b o, lo = some ⟨b, o, none⟩ ∧ w.cell? ⟨b, o + k * 2, none⟩ = some (.string (str (L[k]'h).1)) ∧ w.cell? ⟨b, o + k * 2 + 1, none⟩ = some (.string (str (L[k]'h).2))
theorem FsAt.to {w w' : World} {lo : Option Addr} {L : List (List UInt8 × List UInt8)} (h : FsAt w lo L) (hb : Below w.heap.size w w') : FsAt w' lo L := fun k hk => by
  obtain ⟨h1, h2, b, o, e, hc, hd⟩ := h k hk
  exact ⟨h1, h2, b, o, e, (hb.cell (p := ⟨b, o + k * 2, none⟩) (World.block_lt_of_cell? w _ hc)).trans hc, (hb.cell (p := ⟨b, o + k * 2 + 1, none⟩) (World.block_lt_of_cell? w _ hd)).trans hd⟩
/-- A setup: its files, its quota, its fuse, its numbers. -/
structure Stu where
  L : List (List UInt8 × List UInt8)
  q : Nat
  fu : Int
  ks : List Int
def scs (x : Stu) (lo : Option Addr) (lc : Nat) (ko : Option Addr) (kc : Nat) : Array Value := #[.slice lo x.L.length lc, .int .u16 (x.q : Int), .int .i64 x.fu, .slice ko x.ks.length kc]
structure SuAt (w : World) (x : Stu) (lo ko : Option Addr) : Prop where
  f : FsAt w lo x.L
  l : x.L.length ≤ maxLen
  k : Ints w ko x.ks
  m : x.ks.length ≤ maxLen
  q : x.q < 65536
theorem SuAt.to {w w' : World} {x : Stu} {lo ko : Option Addr} (h : SuAt w x lo ko) (hb : Below w.heap.size w w') : SuAt w' x lo ko :=
  ⟨h.f.to hb, h.l, fun j hj => by
    obtain ⟨b, o, e, hc, hr⟩ := h.k j hj
    exact ⟨b, o, e, (hb.cell (p := ⟨b, o + j, none⟩) (World.block_lt_of_cell? w _ hc)).trans hc, hr⟩, h.m, h.q⟩
def FewOk (x : Stu) : Prop := x.L.length ≤ 40 ∧ x.ks.length ≤ 20 ∧ ∀ k (h : k < x.L.length), (x.L[k]'h).1.length ≤ 100 ∧ (x.L[k]'h).2.length ≤ 1000
def FwPost (x : Stu) (w : World) (R : Ending) (w' : World) : Prop := Below w.heap.size w w' ∧ (R = .returned (.bool false) ∨ (R = .returned (.bool true) ∧ FewOk x))
theorem ty_su18 : TyA 26 4 := tya_struct Tryz.underlying26 (by kernel_rfl)
theorem ld_su18 (v : Value) : Instr.loadAt 26 v = ldT 26 v := rfl
set_option maxHeartbeats 4000000 in
theorem few18_c (x : Stu) (lo : Option Addr) (lc : Nat) (ko : Option Addr) (kc : Nat) (w : World) (h : SuAt w x lo ko) :
    Calls Tryz.prog 7 #[.agg (scs x lo lc ko kc)] w (FwPost x w) := by
  have HC := Lib.hid (Cells.made w 26 (scs x lo lc ko kc))
  have HBW := Lib.hid (kb_alloc w (.cells (scs x lo lc ko kc) 26))
  have HA := Lib.hid h
  have hl := h.l
  have hm := h.m
  simp only [maxLen] at hl hm
  obtain ⟨Q, hQ⟩ : ∃ Q, Q = FwPost x w := ⟨_, rfl⟩
  rw [← hQ]
  have HQ := Lib.hid hQ
  clear hQ h
  go_enter Tryz.func7, Tryz.ntmps7
  go_upto_region 1 with fail
  generalize w.alloc (.cells (scs x lo lc ko kc) 26) = wa at *
  have c0 : wa.cell? ⟨w.heap.size, 0, none⟩ = some (.slice lo x.L.length lc) := HC.out.cell 0
  have c3 : wa.cell? ⟨w.heap.size, 3, none⟩ = some (.slice ko x.ks.length kc) := HC.out.cell 3
  go_wp2
  go_loop [3] (fun i => ∃ k : Nat, k ≤ x.L.length ∧ k ≤ 50 ∧ i = .int .i64 (k : Int) ∧ Hid (∀ j (hj : j < k) (hl : j < x.L.length), (x.L[j]'hl).1.length ≤ 100 ∧ (x.L[j]'hl).2.length ≤ 1000)) (fun i => x.L.length - (intOf i).toNat)
  case atStart => exact ⟨0, Nat.zero_le _, by omega, rfl, fun j hj => by omega⟩
  case round =>
    obtain ⟨k, hk, hk5, rfl, HK⟩ := hrel
    by_cases hlt : k < x.L.length
    · have hlt1 : (k : Int) < (x.L.length : Int) := by omega
      by_cases h50 : k < 50
      · have h51 : (k : Int) < 50 := by omega
        obtain ⟨hn, hbb, b, o, rfl, d0, d1⟩ := (HA.out.to HBW.out).f k hlt
        obtain ⟨e, he⟩ : ∃ e, e = x.L[k]'hlt := ⟨_, rfl⟩
        have HE := Lib.hid he
        rw [← he] at d0 d1
        have z0 := str_size e.1
        have z1 := str_size e.2
        clear he hn hbb
        by_cases h1 : 100 < e.1.length
        · have i1 : (100 : Int) < (e.1.length : Int) := by omega
          clear h1
          go_wp2_with fail
          rw [HQ.out]
          exact ⟨HBW.out, .inl rfl⟩
        · have i1 : ¬ (100 : Int) < (e.1.length : Int) := by omega
          by_cases h2 : 1000 < e.2.length
          · have i2 : (1000 : Int) < (e.2.length : Int) := by omega
            clear h1 h2
            go_wp2_with fail
            rw [HQ.out]
            exact ⟨HBW.out, .inl rfl⟩
          · have i2 : ¬ (1000 : Int) < (e.2.length : Int) := by omega
            have HX : Hid ((x.L[k]'hlt).1.length ≤ 100 ∧ (x.L[k]'hlt).2.length ≤ 1000) := by rw [← HE.out]; exact ⟨Nat.le_of_not_lt h1, Nat.le_of_not_lt h2⟩
            clear h1 h2
            go_wp2
            go_round
            case rel =>
              refine ⟨k + 1, by omega, by omega, by go_num, fun j hj hl => ?_⟩
              by_cases hjk : j = k
              · subst hjk; exact HX.out
              · exact HK.out j (by omega) hl
            case measure => simp [intOf]; omega
      · have h51 : ¬ (k : Int) < 50 := by omega
        have h40 : ¬ (x.L.length : Int) ≤ 40 := by omega
        go_wp2_with fail
        rw [HQ.out]
        exact ⟨HBW.out, .inl rfl⟩
    · have hlt1 : ¬ (k : Int) < (x.L.length : Int) := by omega
      have HX := Lib.hid (show ∀ j (h : j < x.L.length), (x.L[j]'h).1.length ≤ 100 ∧ (x.L[j]'h).2.length ≤ 1000 from fun j h => HK.out j (by omega) h)
      by_cases h40 : x.L.length ≤ 40
      · have i40 : (x.L.length : Int) ≤ 40 := by omega
        have H40 := Lib.hid h40
        by_cases h20 : x.ks.length ≤ 20
        · have i20 : (x.ks.length : Int) ≤ 20 := by omega
          have H20 := Lib.hid h20
          clear h40 h20
          go_wp2_with fail
          rw [HQ.out]
          exact ⟨HBW.out, .inr ⟨rfl, H40.out, H20.out, HX.out⟩⟩
        · have i20 : ¬ (x.ks.length : Int) ≤ 20 := by omega
          clear h40 h20
          go_wp2_with fail
          rw [HQ.out]
          exact ⟨HBW.out, .inl rfl⟩
      · have i40 : ¬ (x.L.length : Int) ≤ 40 := by omega
        clear h40
        go_wp2_with fail
        rw [HQ.out]
        exact ⟨HBW.out, .inl rfl⟩
/-- Two disks in blocks apart, the program's and the document's. -/
def Both2 (B : Nat) (w : World) (gd gr q : Nat) (E E2 : List Ent) : Prop :=
  ∃ S1 S2 : Nat → Prop, (∀ x, S1 x → B ≤ x ∧ x < w.heap.size) ∧ (∀ x, S2 x → B ≤ x ∧ x < w.heap.size) ∧ (∀ x, S1 x → ¬ S2 x) ∧ DkS S1 w (.pointer (some ⟨gd, 0, none⟩)) q E ∧ RkS S2 w (.pointer (some ⟨gr, 0, none⟩)) q E2
theorem Both2.d {B : Nat} {w : World} {gd gr q : Nat} {E E2 : List Ent} (h : Both2 B w gd gr q E E2) (hB : B ≤ w.heap.size) :
    ∃ T : Nat → Prop, (∀ x, w.heap.size ≤ x → T x) ∧ DkS T w (.pointer (some ⟨gd, 0, none⟩)) q E ∧ (∀ w' E', DkS T w' (.pointer (some ⟨gd, 0, none⟩)) q E' → Tu T w w' → Both2 B w' gd gr q E' E2 ∧ ∀ w0, Below B w0 w → Below B w0 w') := by
  obtain ⟨S1, S2, l1, l2, ap, hd, hr⟩ := h
  refine ⟨fun x => S1 x ∨ w.heap.size ≤ x, fun x hx => .inr hx, hd.mono (fun x _ h => .inl h), fun w' E' hd' ht => ⟨⟨fun x => (S1 x ∨ w.heap.size ≤ x) ∧ x < w'.heap.size, S2, ?_, ?_, ?_, hd'.mono fun x hx h => ⟨h, hx⟩, hr.tu ht ?_⟩, fun w0 hb => hb.trans (ht.below (fun x hx h => ?_) hB)⟩⟩
  · rintro x ⟨h | h, hx⟩
    · exact ⟨(l1 x h).1, hx⟩
    · exact ⟨by omega, hx⟩
  · intro x h; have := l2 x h; have := ht.size; omega
  · rintro x ⟨h | h, hx⟩ h2
    · exact ap x h h2
    · have := l2 x h2; omega
  · rintro x hx h2 (h | h)
    · exact ap x h h2
    · omega
  · rcases h with h | h
    · have := l1 x h; omega
    · omega
theorem Both2.r {B : Nat} {w : World} {gd gr q : Nat} {E E2 : List Ent} (h : Both2 B w gd gr q E E2) (hB : B ≤ w.heap.size) :
    ∃ T : Nat → Prop, (∀ x, w.heap.size ≤ x → T x) ∧ RkS T w (.pointer (some ⟨gr, 0, none⟩)) q E2 ∧ (∀ w' E', RkS T w' (.pointer (some ⟨gr, 0, none⟩)) q E' → Tu T w w' → Both2 B w' gd gr q E E' ∧ ∀ w0, Below B w0 w → Below B w0 w') := by
  obtain ⟨S1, S2, l1, l2, ap, hd, hr⟩ := h
  refine ⟨fun x => S2 x ∨ w.heap.size ≤ x, fun x hx => .inr hx, hr.mono (fun x _ h => .inl h), fun w' E' hr' ht => ⟨⟨S1, fun x => (S2 x ∨ w.heap.size ≤ x) ∧ x < w'.heap.size, ?_, ?_, ?_, hd.tu ht ?_, hr'.mono fun x hx h => ⟨h, hx⟩⟩, fun w0 hb => hb.trans (ht.below (fun x hx h => ?_) hB)⟩⟩
  · intro x h; have := l1 x h; have := ht.size; omega
  · rintro x ⟨h | h, hx⟩
    · exact ⟨(l2 x h).1, hx⟩
    · exact ⟨by omega, hx⟩
  · rintro x h2 ⟨h | h, hx⟩
    · exact ap x h2 h
    · have := l1 x h2; omega
  · rintro x hx h2 (h | h)
    · exact ap x h2 h
    · omega
  · rcases h with h | h
    · have := l2 x h; omega
    · omega
theorem Both2.new {B : Nat} {w w' : World} {gd gr q : Nat} {E E2 : List Ent} (h : Both2 B w gd gr q E E2) (hb : Below w.heap.size w w') : Both2 B w' gd gr q E E2 := by
  obtain ⟨S1, S2, l1, l2, ap, hd, hr⟩ := h
  exact ⟨S1, S2, fun x h => ⟨(l1 x h).1, Nat.lt_of_lt_of_le (l1 x h).2 hb.size⟩, fun x h => ⟨(l2 x h).1, Nat.lt_of_lt_of_le (l2 x h).2 hb.size⟩, ap, hd.new hb, hr.new hb⟩
def mkE (q : Nat) : List Ent → List (List UInt8 × List UInt8) → List Ent
  | E, [] => E
  | E, e :: r => mkE q (aSync (aAppend q (aCreate E e.1) e.1 e.2) e.1) r
def MkPost (x : Stu) (ko : Option Addr) (kc : Nat) (w : World) (R : Ending) (w' : World) : Prop :=
  ∃ g gd h gr ko6 kc6 S1 S2, R = .returned (.tuple #[.pointer (some ⟨g, 0, none⟩), .pointer (some ⟨h, 0, none⟩)]) ∧ BothP w w' g gd h gr (1 + x.q) ko6 ko kc6 kc ⟨x.fu, x.ks, 0, false, mkE (1 + x.q) [] x.L⟩ ⟨x.fu, x.ks, 0, false, mkE (1 + x.q) [] x.L⟩ S1 S2
theorem both_made {w w8 : World} {gp gd gh gr q kc6 kc B N : Nat} {ko6 ko : Option Addr} {p : Pw} {R1 R2 : Nat → Prop} (hp : PwC R1 w8 gp (.pointer (some ⟨gd, 0, none⟩)) q ko6 kc6 p) (hq : QwC R2 w8 gh gr q ko kc p)
    (ap : ∀ x, R1 x → ¬ R2 x) (l1 : ∀ x, R1 x → B ≤ x ∧ x < N) (l2 : ∀ x, R2 x → B ≤ x ∧ x < N) (hwB : w.heap.size ≤ B) (hBN : B ≤ N) (hg : N ≤ gp) (hh : N ≤ gh) (hne : gp ≠ gh) (k1 : ∀ a, ko6 = some a → p.ks ≠ [] → N ≤ a.block ∧ a.block ≠ gh) (k2 : ∀ a, ko = some a → p.ks ≠ [] → a.block < w.heap.size) (be : Below w.heap.size w w8) :
    BothP w w8 gp gd gh gr q ko6 ko kc6 kc p p R1 R2 := by
  refine ⟨hp, hq, ap, hne, fun hx => ?_, fun hx => ?_, fun a e hn => ⟨?_, fun hx => ?_⟩, fun a e hn => ⟨?_, fun hx => ?_⟩, fun x hx => ?_, fun x hx => ?_, be⟩
  · have := l2 _ hx; omega
  · have := l1 _ hx; omega
  · exact (k1 a e hn).2
  · have := (k1 a e hn).1; have := l2 _ hx; omega
  · have := k2 a e hn; omega
  · have := k2 a e hn; have := l1 _ hx; omega
  · rcases hx with hx | hx
    · omega
    · have := l1 _ hx; omega
  · rcases hx with hx | hx
    · omega
    · have := l2 _ hx; omega
set_option maxHeartbeats 8000000 in
theorem made18_c (x : Stu) (lo : Option Addr) (lc : Nat) (ko : Option Addr) (kc : Nat) (w : World) (h : SuAt w x lo ko) (hfew : FewOk x) :
    Calls Tryz.prog 9 #[.agg (scs x lo lc ko kc)] w (MkPost x ko kc w) := by
  have HC := Lib.hid (Cells.made w 26 (scs x lo lc ko kc))
  have HBW := Lib.hid (kb_alloc w (.cells (scs x lo lc ko kc) 26))
  have HA := Lib.hid h
  have HFW := Lib.hid hfew
  have hl := h.l
  have hq := h.q
  simp only [maxLen] at hl
  obtain ⟨Q, hQ⟩ : ∃ Q, Q = MkPost x ko kc w := ⟨_, rfl⟩
  rw [← hQ]
  have HQ := Lib.hid hQ
  clear hQ h hfew
  go_enter Tryz.func9, Tryz.ntmps9
  go_upto_region 1 with fail
  have HSA := Lib.hid (show (w.alloc (.cells (scs x lo lc ko kc) 26)).heap.size = w.heap.size + 1 by simp)
  generalize w.alloc (.cells (scs x lo lc ko kc) 26) = wa at *
  have CC := Lib.hid (fun W (hW : Below wa.heap.size wa W) => HC.out.below hW HC.out.lt)
  have c0 : ∀ W, Below wa.heap.size wa W → W.cell? ⟨w.heap.size, 0, none⟩ = some (.slice lo x.L.length lc) := fun W hW => (CC.out W hW).cell 0
  have c1 : wa.cell? ⟨w.heap.size, 1, none⟩ = some (.int .u16 (x.q : Int)) := HC.out.cell 1
  have hr := HA.out.to HBW.out
  have HR := Lib.hid hr
  obtain ⟨y, hy, hy1, hy2⟩ : ∃ y : Int, 1 + (x.q : Int) = y ∧ 1 ≤ y ∧ y ≤ 65536 := ⟨_, rfl, by omega, by omega⟩
  have HY := Lib.hid (show y.toNat = 1 + x.q by omega)
  clear hr
  go_wp2_with fail
  try rw [hy]
  refine (new_c y wa).mono ?_
  rintro R w1 ⟨hb1, (⟨_, _, v, rfl, hd1⟩ | ⟨h1, _⟩)⟩
  rotate_left
  · omega
  obtain ⟨gd, rfl⟩ := hd1.ptr1
  have c1' : w1.cell? ⟨w.heap.size, 1, none⟩ = some (.int .u16 (x.q : Int)) := (HC.out.below hb1 HC.out.lt).cell 1
  have HD1 := Lib.hid hd1
  have HB1 := Lib.hid hb1
  clear hd1 hb1 c1
  go_wp2_with fail
  try rw [hy]
  refine (rnew_c y w1).mono ?_
  rintro R w2 ⟨hb2, (⟨_, _, v, rfl, hd2⟩ | ⟨h1, _⟩)⟩
  rotate_left
  · omega
  obtain ⟨gr, rfl⟩ := hd2.ptr
  have HB2 := Lib.hid (HB1.out.trans (hb2.mono HB1.out.size))
  obtain ⟨q, hqq⟩ : ∃ q, q = 1 + x.q := ⟨_, rfl⟩
  rw [HY.out, ← hqq] at hd2
  have hd1 := HD1.out
  rw [HY.out, ← hqq] at hd1
  have HBB := Lib.hid (show Both2 wa.heap.size w2 gd gr q [] [] from ⟨fun x => wa.heap.size ≤ x ∧ x < w1.heap.size, fun x => w1.heap.size ≤ x ∧ x < w2.heap.size, fun x h => ⟨h.1, by have := hb2.size; omega⟩, fun x h => ⟨by have := HB1.out.size; omega, h.2⟩, fun x h1 h2 => by omega, (hd1.mono fun x hx h => ⟨h, hx⟩).new hb2, hd2.mono fun x hx h => ⟨h, hx⟩⟩)
  have HQQ := Lib.hid hqq
  clear hd1 hd2 hb2 HD1 HB1 c1' HY hy1 hy2 hy hqq
  have c0' := c0 w2 HB2.out
  go_wp2
  clear c0'
  go_loopw [6] (fun i wr => ∃ (k : Nat) (E : List Ent), k ≤ x.L.length ∧ i = .int .i64 (k : Int) ∧ Hid (mkE q [] x.L = mkE q E (x.L.drop k)) ∧ Hid (Both2 wa.heap.size wr gd gr q E E) ∧ Hid (Below wa.heap.size wa wr)) (fun i _ => x.L.length - (intOf i).toNat)
  case atStart => exact ⟨0, [], Nat.zero_le _, rfl, rfl, HBB.out, HB2.out⟩
  case round =>
    obtain ⟨k, E, hk, rfl, HE, HBB, HB⟩ := hrel
    clear HB2
    by_cases hlt : k < x.L.length
    · have hlt1 : (k : Int) < (x.L.length : Int) := by omega
      obtain ⟨hn, hbb, b, o, rfl, d0, d1⟩ := HR.out.f k hlt
      have HDR := Lib.hid (List.drop_eq_getElem_cons hlt)
      obtain ⟨⟨en, eb⟩, he⟩ : ∃ e, e = x.L[k]'hlt := ⟨_, rfl⟩
      rw [← he] at hn hbb d0 d1 HDR
      dsimp only at hn hbb d0 d1
      have HN := Lib.hid hn
      have HBL := Lib.hid hbb
      have f0 : ∀ W, Below wa.heap.size wa W → W.cell? ⟨b, o + k * 2, none⟩ = some (.string (str en)) := fun W hW => (hW.cell (p := ⟨b, o + k * 2, none⟩) (World.block_lt_of_cell? wa _ d0)).trans d0
      have f1 : ∀ W, Below wa.heap.size wa W → W.cell? ⟨b, o + k * 2 + 1, none⟩ = some (.string (str eb)) := fun W hW => (hW.cell (p := ⟨b, o + k * 2 + 1, none⟩) (World.block_lt_of_cell? wa _ d1)).trans d1
      clear he hn hbb d0 d1
      obtain ⟨T0, hT0, hd0, bk0⟩ := HBB.out.d HB.out.size
      have HBK0 := Lib.hid bk0
      clear bk0
      have g0 := c0 wr HB.out
      have g1 := f0 wr HB.out
      go_wp2_with fail
      clear g0 g1
      refine (create_c en wr hd0 hT0 HN.out).mono ?_
      rintro R w3 ⟨rfl, hx, ht⟩
      obtain ⟨b0, be0⟩ := HBK0.out _ _ hx ht
      have B0 := Lib.hid b0
      have BE0 := Lib.hid (be0 wa HB.out)
      clear hx ht b0 be0 HBK0 hT0 hd0
      obtain ⟨T1, hT1, hd1, bk1⟩ := B0.out.d BE0.out.size
      have HBK1 := Lib.hid bk1
      clear bk1
      go_upto_region 7 with fail
      obtain ⟨wd, hwd⟩ : ∃ wd, ({ w3 with drawn := w3.drawn + 1 } : World) = wd := ⟨_, rfl⟩
      have hbd : Below wa.heap.size wa wd := hwd ▸ BE0.out.drew
      have g0 := c0 wd hbd
      have g1 := f0 wd hbd
      have g2 := f1 wd hbd
      have hdd : DkS T1 wd (.pointer (some ⟨gd, 0, none⟩)) q (aCreate (E) en) := hwd ▸ hd1.new (Below.refl _ w3).drew
      have hTd : ∀ x, wd.heap.size ≤ x → T1 x := fun x hx => hT1 x (by rw [← hwd] at hx; exact hx)
      have htd : ∀ w', Tu T1 wd w' → Tu T1 w3 w' := fun w' t => by rw [← hwd] at t; exact ⟨t.os, t.tape, t.output, t.size, t.block⟩
      have HTD := Lib.hid htd
      clear htd hbd
      refine wp_region_still_tail 13 (by kernel_rfl) (by kernel_rfl) ?_
      simp only [List.take_succ_cons, List.take_zero, List.drop_succ_cons, List.drop_zero]
      rw [hwd]
      clear hwd
      repeat still_step
      refine wpStill_nil ?_
      go_wp2_with fail
      clear g0 g1 g2
      refine (append_c en eb wd hdd hTd HN.out HBL.out).mono ?_
      rintro R w4 ⟨rfl, hx, ht⟩
      obtain ⟨b1, be1⟩ := HBK1.out _ _ hx (HTD.out _ ht)
      have B1 := Lib.hid b1
      have BE1 := Lib.hid (be1 wa BE0.out)
      clear hx ht b1 be1 HBK1 hT1 hd1 hdd hTd HTD
      obtain ⟨T2, hT2, hd2, bk2⟩ := B1.out.d BE1.out.size
      have HBK2 := Lib.hid bk2
      clear bk2
      have g0 := c0 w4 BE1.out
      have g1 := f0 w4 BE1.out
      go_wp2_with fail
      clear g0 g1
      refine (sync_c en w4 hd2 HN.out).mono ?_
      rintro R w5 ⟨rfl, hx, ht⟩
      obtain ⟨b2, be2⟩ := HBK2.out _ _ hx ht
      have B2 := Lib.hid b2
      have BE2 := Lib.hid (be2 wa BE1.out)
      clear hx ht b2 be2 HBK2 hT2 hd2
      obtain ⟨T3, hT3, hd3, bk3⟩ := B2.out.r BE2.out.size
      have HBK3 := Lib.hid bk3
      clear bk3
      have g0 := c0 w5 BE2.out
      have g1 := f0 w5 BE2.out
      go_wp2_with fail
      clear g0 g1
      obtain ⟨ra, rc, hk⟩ := RkS.of hd3
      refine (rcreate_c hk hT3 en HN.out).mono ?_
      rintro R w6 ⟨rfl, hx, ht⟩
      obtain ⟨b3, be3⟩ := HBK3.out _ _ hx ht
      have B3 := Lib.hid b3
      have BE3 := Lib.hid (be3 wa BE2.out)
      clear hx ht b3 be3 HBK3 hT3 hd3 hk
      obtain ⟨T4, hT4, hd4, bk4⟩ := B3.out.r BE3.out.size
      have HBK4 := Lib.hid bk4
      clear bk4
      go_upto_region 10 with fail
      obtain ⟨wd, hwd⟩ : ∃ wd, ({ w6 with drawn := w6.drawn + 1 } : World) = wd := ⟨_, rfl⟩
      have hbd : Below wa.heap.size wa wd := hwd ▸ BE3.out.drew
      have g0 := c0 wd hbd
      have g1 := f0 wd hbd
      have g2 := f1 wd hbd
      have hdd : RkS T4 wd (.pointer (some ⟨gr, 0, none⟩)) q (aCreate (E) en) := hwd ▸ hd4.new (Below.refl _ w6).drew
      have hTd : ∀ x, wd.heap.size ≤ x → T4 x := fun x hx => hT4 x (by rw [← hwd] at hx; exact hx)
      have htd : ∀ w', Tu T4 wd w' → Tu T4 w6 w' := fun w' t => by rw [← hwd] at t; exact ⟨t.os, t.tape, t.output, t.size, t.block⟩
      have HTD := Lib.hid htd
      clear htd hbd
      refine wp_region_still_tail 13 (by kernel_rfl) (by kernel_rfl) ?_
      simp only [List.take_succ_cons, List.take_zero, List.drop_succ_cons, List.drop_zero]
      rw [hwd]
      clear hwd
      repeat still_step
      refine wpStill_nil ?_
      go_wp2_with fail
      clear g0 g1 g2
      obtain ⟨ra, rc, hk⟩ := RkS.of hdd
      refine (rappend_c hk en eb HN.out HBL.out).mono ?_
      rintro R w7 ⟨rfl, hx, ht⟩
      obtain ⟨b4, be4⟩ := HBK4.out _ _ hx (HTD.out _ ht)
      have B4 := Lib.hid b4
      have BE4 := Lib.hid (be4 wa BE3.out)
      clear hx ht b4 be4 HBK4 hT4 hd4 hk hdd hTd HTD
      obtain ⟨T5, hT5, hd5, bk5⟩ := B4.out.r BE4.out.size
      have HBK5 := Lib.hid bk5
      clear bk5
      have g0 := c0 w7 BE4.out
      have g1 := f0 w7 BE4.out
      go_wp2_with fail
      clear g0 g1
      obtain ⟨ra, rc, hk⟩ := RkS.of hd5
      refine (rsync_c hk en HN.out).mono ?_
      rintro R w8 ⟨rfl, hx, ht⟩
      obtain ⟨b5, be5⟩ := HBK5.out _ _ hx ht
      have B5 := Lib.hid b5
      have BE5 := Lib.hid (be5 wa BE4.out)
      clear hx ht b5 be5 HBK5 hT5 hd5 hk
      have HEN : Hid (mkE q [] x.L = mkE q (aSync (aAppend q (aCreate E en) en eb) en) (x.L.drop (k + 1))) := by show _ = _; rw [HE.out, HDR.out]; rfl
      clear B0 B1 B2 B3 B4 BE0 BE1 BE2 BE3 BE4 HB HBB HE f0 f1
      go_wp2
      go_roundw
      case rel => exact ⟨k + 1, _, by omega, by go_num, HEN.out, B5.out, BE5.out⟩
      case measure => simp [intOf]; omega
    · have hlt1 : ¬ (k : Int) < (x.L.length : Int) := by omega
      have HEN : Hid (mkE q [] x.L = E) := by show _ = _; rw [HE.out, List.drop_of_length_le (by omega)]; rfl
      clear HE
      have c0w := c0 wr HB.out
      go_upto_region 12 with fail
      clear c0w
      obtain ⟨R1, R2, l1, l2, ap, hdk, hrk⟩ := HBB.out
      have HS1 := Lib.hid l1
      have HS2 := Lib.hid l2
      have HS12 := Lib.hid ap
      have HD2 := Lib.hid (hdk.new (Below.refl _ wr).drew)
      have HK2 := Lib.hid (hrk.new (Below.refl _ wr).drew)
      have HWS := Lib.hid (show wr.heap.size = wr.drew.heap.size from rfl)
      have o0 : Below wa.heap.size wa wr.drew := HB.out.drew
      have a2 : ∀ W, Below wa.heap.size wa W → W.cell? ⟨w.heap.size, 2, none⟩ = some (.int .i64 x.fu) := fun W hW => (CC.out W hW).cell 2
      have a3 : ∀ W, Below wa.heap.size wa W → W.cell? ⟨w.heap.size, 3, none⟩ = some (.slice ko x.ks.length kc) := fun W hW => (CC.out W hW).cell 3
      clear l1 l2 ap hdk hrk HBB c0
      refine wp_region_till (S := fun W => Below wa.heap.size wa W) (by kernel_rfl) ?_
      generalize wr.drew = wd at *
      refine wpTill_take (i := 0) (v := ?vq1) rfl (by kernel_rfl) (fun _ _ _ h => h) (Or.inl ⟨by rfl, ?hq1⟩) o0 ?rq1
      case hq1 => (intro W hW; (try dsimp only at hW); go_simp; try with_reducible rfl)
      simp only [Act.put, List.setIfInBounds_toArray, List.set_cons_zero, List.set_cons_succ, List.getElem_toArray, List.getElem_cons_succ, List.getElem_cons_zero]
      refine wpTill_take (i := 1) (v := ?vq2) rfl (by kernel_rfl) (fun _ _ _ h => h) (Or.inl ⟨by rfl, ?hq2⟩) o0 ?rq2
      case hq2 => (intro W hW; (try dsimp only at hW); go_simp; try with_reducible rfl)
      simp only [Act.put, List.setIfInBounds_toArray, List.set_cons_zero, List.set_cons_succ, List.getElem_toArray, List.getElem_cons_succ, List.getElem_cons_zero]
      refine wpTill_take (i := 2) (v := ?vq3) rfl (by kernel_rfl) (fun _ _ _ h => h) (Or.inl ⟨by rfl, ?hq3⟩) o0 ?rq3
      case hq3 => (intro W hW; (try dsimp only at hW); go_simp; try with_reducible rfl)
      simp only [Act.put, List.setIfInBounds_toArray, List.set_cons_zero, List.set_cons_succ, List.getElem_toArray, List.getElem_cons_succ, List.getElem_cons_zero]
      refine wpTill_take (i := 3) (v := ?vq4) rfl (by kernel_rfl) (fun _ _ _ h => h) (Or.inl ⟨by rfl, ?hq4⟩) o0 ?rq4
      case hq4 => (intro W hW; (try dsimp only at hW); go_simp; try with_reducible rfl)
      simp only [Act.put, List.setIfInBounds_toArray, List.set_cons_zero, List.set_cons_succ, List.getElem_toArray, List.getElem_cons_succ, List.getElem_cons_zero]
      refine wpTill_take (i := 4) (v := ?vq5) rfl (by kernel_rfl) (fun _ _ _ h => h) (Or.inl ⟨by rfl, ?hq5⟩) o0 ?rq5
      case hq5 => (intro W hW; (try dsimp only at hW); go_simp; try with_reducible rfl)
      simp only [Act.put, List.setIfInBounds_toArray, List.set_cons_zero, List.set_cons_succ, List.getElem_toArray, List.getElem_cons_succ, List.getElem_cons_zero]
      refine wpTill_take (i := 6) (v := ?vq6) rfl (by kernel_rfl) (fun _ _ _ h => h) (Or.inl ⟨by rfl, ?hq6⟩) o0 ?rq6
      case hq6 => (intro W hW; (try dsimp only at hW); go_simp; try with_reducible rfl)
      simp only [Act.put, List.setIfInBounds_toArray, List.set_cons_zero, List.set_cons_succ, List.getElem_toArray, List.getElem_cons_succ, List.getElem_cons_zero]
      refine wpTill_take (i := 7) (v := ?vq7) rfl (by kernel_rfl) (fun _ _ _ h => h) (Or.inl ⟨by rfl, ?hq7⟩) o0 ?rq7
      case hq7 => (intro W hW; (try dsimp only at hW); go_simp; try with_reducible rfl)
      simp only [Act.put, List.setIfInBounds_toArray, List.set_cons_zero, List.set_cons_succ, List.getElem_toArray, List.getElem_cons_succ, List.getElem_cons_zero]
      refine wpTill_take (i := 8) (v := ?vq8) rfl (by kernel_rfl) (fun _ _ _ h => h) (Or.inl ⟨by rfl, ?hq8⟩) o0 ?rq8
      case hq8 => (intro W hW; (try dsimp only at hW); go_simp; try with_reducible rfl)
      simp only [Act.put, List.setIfInBounds_toArray, List.set_cons_zero, List.set_cons_succ, List.getElem_toArray, List.getElem_cons_succ, List.getElem_cons_zero]
      refine wpTill_take (i := 9) (v := ?vq9) rfl (by kernel_rfl) (fun _ _ _ h => h) (Or.inl ⟨by rfl, ?hq9⟩) o0 ?rq9
      case hq9 => (intro W hW; (try dsimp only at hW); go_simp; try with_reducible rfl)
      simp only [Act.put, List.setIfInBounds_toArray, List.set_cons_zero, List.set_cons_succ, List.getElem_toArray, List.getElem_cons_succ, List.getElem_cons_zero]
      refine wpTill_take (i := 10) (v := ?vq10) rfl (by kernel_rfl) (fun _ _ _ h => h) (Or.inl ⟨by rfl, ?hq10⟩) o0 ?rq10
      case hq10 => (intro W hW; (try dsimp only at hW); go_simp; try with_reducible rfl)
      simp only [Act.put, List.setIfInBounds_toArray, List.set_cons_zero, List.set_cons_succ, List.getElem_toArray, List.getElem_cons_succ, List.getElem_cons_zero]
      refine wpTill_take (i := 11) (v := ?vq11) rfl (by kernel_rfl) (fun _ _ _ h => h) (Or.inl ⟨by rfl, ?hq11⟩) o0 ?rq11
      case hq11 => (intro W hW; (try dsimp only at hW); go_simp; try with_reducible rfl)
      simp only [Act.put, List.setIfInBounds_toArray, List.set_cons_zero, List.set_cons_succ, List.getElem_toArray, List.getElem_cons_succ, List.getElem_cons_zero]
      have hki : ∀ a, ko = some a → x.ks ≠ [] → a.block < w.heap.size := fun a e hn => by
        obtain ⟨b, o', e2, hc, _⟩ := HA.out.k 0 (List.length_pos_iff.2 hn)
        rw [e] at e2
        cases e2
        exact World.block_lt_of_cell? w _ hc
      have HKI := Lib.hid hki
      have l1 : ∀ z, R1 z → wa.heap.size ≤ z ∧ z < wd.heap.size := fun z h => by have := HS1.out z h; have := HWS.out; omega
      have l2 : ∀ z, R2 z → wa.heap.size ≤ z ∧ z < wd.heap.size := fun z h => by have := HS2.out z h; have := HWS.out; omega
      have HL1 := Lib.hid l1
      have HL2 := Lib.hid l2
      have HWA := Lib.hid HBW.out.size
      clear hki l1 l2 HS1 HS2 HWS
      have NEWC := Lib.hid (fun W (hW : Below wa.heap.size wa W) (hW2 : Below wd.heap.size wd W) => pnew_c x.fu ko x.ks kc W (HD2.out.new hW2) (HR.out.to hW).k HFW.out.2.1)
      have FIN : Hid (∀ W g gd' h ko6 kc6, gd' = gd → BothP w W g gd' h gr q ko6 ko kc6 kc ⟨x.fu, x.ks, 0, false, E⟩ ⟨x.fu, x.ks, 0, false, E⟩ R1 R2 → Q (.returned (.tuple #[.pointer (some ⟨g, 0, none⟩), .pointer (some ⟨h, 0, none⟩)])) W) := fun W g gd' h ko6 kc6 e hb => by
        rw [HQ.out]
        unfold MkPost
        rw [← HQQ.out, HEN.out]
        exact ⟨g, gd', h, gr, ko6, kc6, R1, R2, rfl, hb⟩
      refine wpTill_pair (i := 5) (j := 12) (by kernel_rfl) rfl rfl o0 (fun K hK => ?_) (fun K hK => ?_)
      · go_simp
        go_at_call 29
        refine (NEWC.out wd o0 (Below.refl _ _)).mono ?_
        rintro R w6 ⟨gp, ko6, kc6, rfl, hgp, hko, hp6, hb6⟩
        have HP6 := Lib.hid (hp6.mono (S' := R1) (fun z hz => ⟨fun h => h.1, fun h => ⟨h, (HL1.out z h).2⟩⟩))
        have o6 := o0.trans (hb6.mono o0.size)
        have HK6 := Lib.hid (HK2.out.new hb6)
        have HGP := Lib.hid hgp
        have HKO := Lib.hid hko
        have HB6 := Lib.hid hb6.size
        clear hp6 hgp hko hb6
        refine hK _ _ ?_
        clear hK K
        refine wpTill_take (i := 13) (v := ?vq12) rfl (by kernel_rfl) (fun _ _ _ h => h) (Or.inl ⟨by rfl, ?hq12⟩) o6 ?rq12
        case hq12 => (intro W hW; (try dsimp only at hW); go_simp; try with_reducible rfl)
        simp only [Act.put, List.setIfInBounds_toArray, List.set_cons_zero, List.set_cons_succ, List.getElem_toArray, List.getElem_cons_succ, List.getElem_cons_zero]
        refine wpTill_run (i := 12) (by kernel_rfl) rfl o6 (fun K hK => ?_)
        go_simp
        have o8 : Below wa.heap.size wa (w6.alloc (.cells (qcs gr ko kc ⟨x.fu, x.ks, 0, false, E⟩) 54)) := o6.trans ((kb_alloc w6 _).mono o6.size)
        refine hK _ _ ?_
        clear hK K
        refine wpTill_run (i := 14) (by kernel_rfl) rfl o8 (fun K hK => ?_)
        go_simp
        refine hK _ _ ?_
        clear hK K
        refine wpTill_done (by kernel_rfl) ?_
        have P8 : Hid (BothP w (w6.alloc (.cells (qcs gr ko kc ⟨x.fu, x.ks, 0, false, E⟩) 54)) gp gd w6.heap.size gr q ko6 ko kc6 kc ⟨x.fu, x.ks, 0, false, E⟩ ⟨x.fu, x.ks, 0, false, E⟩ R1 R2) := by
          have hd : Below w6.heap.size w6 (w6.alloc (.cells (qcs gr ko kc ⟨x.fu, x.ks, 0, false, E⟩) 54)) := kb_alloc w6 _
          have h1 := HB6.out
          have h2 := HP6.out.lt
          have h3 := o0.size
          have h4 := HWA.out
          refine both_made (B := wa.heap.size) (N := wd.heap.size) (HP6.out.new hd) ⟨Cells.made w6 _ _, (HR.out.to o8).k, HFW.out.2.1, fun a e hn => ⟨⟨fun hx => ?_, ?_⟩, ?_⟩, fun hx => ?_, HK6.out.new hd⟩ HS12.out HL1.out HL2.out h4 h3 HGP.out h1 (by omega) (fun a e hn => ⟨HKO.out a e hn, ?_⟩) HKI.out (HBW.out.trans (o8.mono h4))
          · have := HKI.out a e hn; have := HL2.out _ hx; omega
          · have := HKI.out a e hn; show a.block ≠ w6.heap.size; omega
          · have := HKI.out a e hn; have := o8.size; omega
          · have := HL2.out _ hx; omega
          · have := (HP6.out.kf a e hn).2; omega
        clear HP6 HK6 HGP HKO HB6 o6 o8 o0 a2 a3
        go_wp2
        exact FIN.out _ _ _ _ _ _ rfl P8.out
      · go_simp
        have o7 : Below wa.heap.size wa (wd.alloc (.cells (qcs gr ko kc ⟨x.fu, x.ks, 0, false, E⟩) 54)) := o0.trans ((kb_alloc wd _).mono o0.size)
        have b7 : Below wd.heap.size wd (wd.alloc (.cells (qcs gr ko kc ⟨x.fu, x.ks, 0, false, E⟩) 54)) := kb_alloc wd _
        have HSB := Lib.hid (show (wd.alloc (.cells (qcs gr ko kc ⟨x.fu, x.ks, 0, false, E⟩) 54)).heap.size = wd.heap.size + 1 by simp)
        have HQ7 : Hid (QwC R2 (wd.alloc (.cells (qcs gr ko kc ⟨x.fu, x.ks, 0, false, E⟩) 54)) wd.heap.size gr q ko kc ⟨x.fu, x.ks, 0, false, E⟩) := by
          have h3 := o0.size
          have h4 := HWA.out
          refine ⟨Cells.made wd _ _, (HR.out.to o7).k, HFW.out.2.1, fun a e hn => ⟨⟨fun hx => ?_, ?_⟩, ?_⟩, fun hx => ?_, HK2.out.new b7⟩
          · have := HKI.out a e hn; have := HL2.out _ hx; omega
          · have := HKI.out a e hn; show a.block ≠ wd.heap.size; omega
          · have := HKI.out a e hn; have := o7.size; omega
          · have := HL2.out _ hx; omega
        refine hK _ _ ?_
        clear hK K
        obtain ⟨wb, hwb⟩ : ∃ wb, wb = wd.alloc (.cells (qcs gr ko kc ⟨x.fu, x.ks, 0, false, E⟩) 54) := ⟨_, rfl⟩
        rw [show wd.alloc (.cells #[.pointer (some ⟨gr, 0, none⟩), .int .i64 x.fu, .slice ko x.ks.length kc, .int .i64 0, .bool false] 54) = wb from hwb.symm]
        rw [← hwb] at o7 b7 HSB HQ7
        clear hwb
        refine wpTill_run (i := 5) (by kernel_rfl) rfl o7 (fun K hK => ?_)
        go_simp
        go_at_call 29
        refine (NEWC.out wb o7 b7).mono ?_
        rintro R w6 ⟨gp, ko6, kc6, rfl, hgp, hko, hp6, hb6⟩
        have HP6 := Lib.hid (hp6.mono (S' := R1) (fun z hz => ⟨fun h => h.1, fun h => ⟨h, by have := (HL1.out z h).2; have := b7.size; omega⟩⟩))
        have o6 := o7.trans (hb6.mono o7.size)
        have HQ6 := Lib.hid (HQ7.out.new hb6)
        have HGP := Lib.hid hgp
        have HKO := Lib.hid hko
        clear hp6 hgp hko hb6
        refine hK _ _ ?_
        clear hK K
        refine wpTill_take (i := 13) (v := ?vq13) rfl (by kernel_rfl) (fun _ _ _ h => h) (Or.inl ⟨by rfl, ?hq13⟩) o6 ?rq13
        case hq13 => (intro W hW; (try dsimp only at hW); go_simp; try with_reducible rfl)
        simp only [Act.put, List.setIfInBounds_toArray, List.set_cons_zero, List.set_cons_succ, List.getElem_toArray, List.getElem_cons_succ, List.getElem_cons_zero]
        refine wpTill_run (i := 14) (by kernel_rfl) rfl o6 (fun K hK => ?_)
        go_simp
        refine hK _ _ ?_
        clear hK K
        refine wpTill_done (by kernel_rfl) ?_
        have P8 : Hid (BothP w w6 gp gd wd.heap.size gr q ko6 ko kc6 kc ⟨x.fu, x.ks, 0, false, E⟩ ⟨x.fu, x.ks, 0, false, E⟩ R1 R2) := by
          have h3 := o0.size
          have h4 := HWA.out
          have h5 := HSB.out
          have h6 := HGP.out
          exact both_made (B := wa.heap.size) (N := wd.heap.size) HP6.out HQ6.out HS12.out HL1.out HL2.out h4 h3 (by omega) (Nat.le_refl _) (by omega) (fun a e hn => ⟨by have := HKO.out a e hn; omega, by have := HKO.out a e hn; omega⟩) HKI.out (HBW.out.trans (o6.mono h4))
        clear HP6 HGP HKO HQ6 HQ7 o6 o7 o0 b7 a2 a3
        go_wp2
        exact FIN.out _ _ _ _ _ _ rfl P8.out
end Go.Proofs.YtacgmadgkmcmoaaGreatDoor
