/- Two powers, the program's and the document's, in blocks apart; one call of both. -/
import Derived.Test.YthjhjbiihhpnfaaGreatPm
namespace Go.Proofs.YthjhjbiihhpnfaaGreat
open Go.RowKit
set_option linter.unusedVariables false
set_option linter.unusedSimpArgs false
set_option maxRecDepth 100000

structure BothP (w0 w : World) (g gd h gr q : Nat) (ko ko2 : Option Addr) (kc kc2 : Nat) (p p' : Pw) (S1 S2 : Nat → Prop) : Prop where
  d : PwC S1 w g (.pointer (some ⟨gd, 0, none⟩)) q ko kc p
  r : QwC S2 w h gr q ko2 kc2 p'
  ap : ∀ x, S1 x → ¬ S2 x
  gh : g ≠ h
  g2 : ¬ S2 g
  h1 : ¬ S1 h
  k1 : ∀ a, ko = some a → p.ks ≠ [] → a.block ≠ h ∧ ¬ S2 a.block
  k2 : ∀ a, ko2 = some a → p'.ks ≠ [] → a.block ≠ g ∧ ¬ S1 a.block
  lo1 : ∀ x, x = g ∨ S1 x → w0.heap.size ≤ x
  lo2 : ∀ x, x = h ∨ S2 x → w0.heap.size ≤ x
  be : Below w0.heap.size w0 w
section
variable {w0 w w1 : World} {g gd h gr q kc kc2 : Nat} {ko ko2 : Option Addr} {p p' pn : Pw} {S1 S2 T1 T2 : Nat → Prop}
/-- Other sets of blocks, that say the same of what is there. -/
theorem BothP.sets (k : BothP w0 w g gd h gr q ko ko2 kc kc2 p p' S1 S2) (e1 : ∀ x, x < w.heap.size → (S1 x ↔ T1 x)) (e2 : ∀ x, x < w.heap.size → (S2 x ↔ T2 x)) (ap : ∀ x, w.heap.size ≤ x → T1 x → ¬ T2 x) :
    BothP w0 w g gd h gr q ko ko2 kc kc2 p p' T1 T2 := by
  have hsz := k.be.size
  have hg := k.d.lt
  have hh := k.r.blk.lt
  refine ⟨k.d.mono e1, k.r.mono e2, fun x hx hn => ?_, k.gh, fun hx => k.g2 ((e2 _ hg).2 hx), fun hx => k.h1 ((e1 _ hh).2 hx), fun a e hn => ⟨(k.k1 a e hn).1, fun hx => (k.k1 a e hn).2 ((e2 _ (k.d.kf a e hn).2).2 hx)⟩, fun a e hn => ⟨(k.k2 a e hn).1, fun hx => (k.k2 a e hn).2 ((e1 _ (k.r.kf a e hn).2).2 hx)⟩, fun x hx => ?_, fun x hx => ?_, k.be⟩
  · by_cases hlt : x < w.heap.size
    · exact k.ap x ((e1 x hlt).2 hx) ((e2 x hlt).2 hn)
    · exact ap x (by omega) hx hn
  · by_cases hlt : x < w.heap.size
    · rcases hx with e | hx
      · exact k.lo1 x (.inl e)
      · exact k.lo1 x (.inr ((e1 x hlt).2 hx))
    · omega
  · by_cases hlt : x < w.heap.size
    · rcases hx with e | hx
      · exact k.lo2 x (.inl e)
      · exact k.lo2 x (.inr ((e2 x hlt).2 hx))
    · omega
theorem BothP.trim (k : BothP w0 w g gd h gr q ko ko2 kc kc2 p p' S1 S2) : BothP w0 w g gd h gr q ko ko2 kc kc2 p p' (fun x => S1 x ∧ x < w.heap.size) (fun x => S2 x ∧ x < w.heap.size) :=
  k.sets (fun x hx => ⟨fun h => ⟨h, hx⟩, fun h => h.1⟩) (fun x hx => ⟨fun h => ⟨h, hx⟩, fun h => h.1⟩) (fun x hx h => by have := h.2; omega)
theorem BothP.wide1 (k : BothP w0 w g gd h gr q ko ko2 kc kc2 p p' S1 S2) : BothP w0 w g gd h gr q ko ko2 kc kc2 p p' (fun x => S1 x ∨ w.heap.size ≤ x) (fun x => S2 x ∧ x < w.heap.size) :=
  k.sets (fun x hx => ⟨fun h => .inl h, fun h => h.elim (fun h => h) (fun h => by omega)⟩) (fun x hx => ⟨fun h => ⟨h, hx⟩, fun h => h.1⟩) (fun x hx _ h => by have := h.2; omega)
theorem BothP.wide2 (k : BothP w0 w g gd h gr q ko ko2 kc kc2 p p' S1 S2) : BothP w0 w g gd h gr q ko ko2 kc kc2 p p' (fun x => S1 x ∧ x < w.heap.size) (fun x => S2 x ∨ w.heap.size ≤ x) :=
  k.sets (fun x hx => ⟨fun h => ⟨h, hx⟩, fun h => h.1⟩) (fun x hx => ⟨fun h => .inl h, fun h => h.elim (fun h => h) (fun h => by omega)⟩) (fun x hx h => by have := h.2; omega)
theorem BothP.new (k : BothP w0 w g gd h gr q ko ko2 kc kc2 p p' S1 S2) (hb : Below w.heap.size w w1) : BothP w0 w1 g gd h gr q ko ko2 kc kc2 p p' S1 S2 :=
  ⟨k.d.new hb, k.r.new hb, k.ap, k.gh, k.g2, k.h1, k.k1, k.k2, k.lo1, k.lo2, k.be.trans (hb.mono k.be.size)⟩
/-- The program's power has acted. -/
theorem BothP.s1 (k : BothP w0 w g gd h gr q ko ko2 kc kc2 p p' S1 S2) (hd : PwC S1 w1 g (.pointer (some ⟨gd, 0, none⟩)) q ko kc pn) (hk : pn.ks = p.ks) (ht : Tu (fun x => x = g ∨ S1 x) w w1) : BothP w0 w1 g gd h gr q ko ko2 kc kc2 pn p' S1 S2 := by
  refine ⟨hd, k.r.tu ht ?_ ?_ ?_, k.ap, k.gh, k.g2, k.h1, fun a e hn => k.k1 a e (hk ▸ hn), k.k2, k.lo1, k.lo2, k.be.trans (ht.below (fun x hx hn => ?_) k.be.size)⟩
  · rintro (e | e)
    · exact k.gh e.symm
    · exact k.h1 e
  · rintro a e hn (e' | e')
    · exact (k.k2 a e hn).1 e'
    · exact (k.k2 a e hn).2 e'
  · rintro x _ hs (e | e)
    · exact k.g2 (e ▸ hs)
    · exact k.ap x e hs
  · have := k.lo1 x hn; omega
theorem BothP.s2 (k : BothP w0 w g gd h gr q ko ko2 kc kc2 p p' S1 S2) (hr : QwC S2 w1 h gr q ko2 kc2 pn) (hk : pn.ks = p'.ks) (ht : Tu (fun x => x = h ∨ S2 x) w w1) : BothP w0 w1 g gd h gr q ko ko2 kc kc2 p pn S1 S2 := by
  refine ⟨k.d.tu ht ?_ ?_ ?_, hr, k.ap, k.gh, k.g2, k.h1, k.k1, fun a e hn => k.k2 a e (hk ▸ hn), k.lo1, k.lo2, k.be.trans (ht.below (fun x hx hn => ?_) k.be.size)⟩
  · rintro (e | e)
    · exact k.gh e
    · exact k.g2 e
  · rintro a e hn (e' | e')
    · exact (k.k1 a e hn).1 e'
    · exact (k.k1 a e hn).2 e'
  · rintro x _ hs (e | e)
    · exact k.h1 (e ▸ hs)
    · exact k.ap x hs e
  · have := k.lo2 x hn; omega
end
theorem after_ks (p : Pw) (E : List Ent) : (p.after E).ks = p.ks := by unfold Pw.after; split <;> (try split) <;> rfl
theorem blow_ks (p : Pw) : p.blow.ks = p.ks := by unfold Pw.blow; split <;> rfl
/-- A power behind an act. -/
def actP (a : Act3) (q : Nat) (p : Pw) : Pw := if a.c % 8 < 5 then p.wr (a.c % 8) q a.n a.t else if a.c % 8 = 7 then p.blow else p
def BothE (w0 w : World) (g gd h gr q : Nat) (ko ko2 : Option Addr) (kc kc2 : Nat) (p : Pw) : Prop := ∃ S1 S2, BothP w0 w g gd h gr q ko ko2 kc kc2 p p S1 S2
theorem BothP.start {w0 w : World} {g gd h gr q kc kc2 : Nat} {ko ko2 : Option Addr} {p p' : Pw} {S1 S2 : Nat → Prop} (k : BothP w0 w g gd h gr q ko ko2 kc kc2 p p' S1 S2) (o : Obj) :
    ∃ V1 V2, BothP w0 (w.alloc o) g gd h gr q ko ko2 kc kc2 p p' V1 V2 ∧ (∀ x, (w.alloc o).heap.size ≤ x → V1 x) ∧ ¬ V1 w.heap.size ∧ ¬ V2 w.heap.size := by
  have k1 := ((k.trim).new (below_alloc w o)).wide1
  refine ⟨_, _, k1, fun x hx => .inr hx, ?_, ?_⟩
  · rintro (hx | hx)
    · have := hx.2; omega
    · rw [World.size_alloc] at hx; omega
  · rintro ⟨hx, _⟩
    have := hx.2; omega
def OnePost (w0 : World) (g gd h gr q : Nat) (ko ko2 : Option Addr) (kc kc2 : Nat) (p : Pw) (R : Ending) (w' : World) : Prop := R = .returned (.bool true) ∧ BothE w0 w' g gd h gr q ko ko2 kc kc2 p
set_option maxHeartbeats 8000000 in
theorem one_c {g gd h gr q kc kc2 : Nat} {ko ko2 : Option Addr} {p : Pw} (a : Act3) (w0 w : World) (k : BothE w0 w g gd h gr q ko ko2 kc kc2 p) (ha : a.ok) (hp : p.n < 1000000) (hE : p.E.length ≤ 1000) :
    Calls Tryz.prog 10 #[.pointer (some ⟨g, 0, none⟩), .pointer (some ⟨h, 0, none⟩), .agg a.cs] w (OnePost w0 g gd h gr q ko ko2 kc kc2 (actP a q p)) := by
  obtain ⟨S1, S2, k⟩ := k
  have hbg : g ≠ w.heap.size := by have := k.d.lt; omega
  have hbh : h ≠ w.heap.size := by have := k.r.blk.lt; omega
  have hal : Below w.heap.size w (w.alloc (.cells a.cs 37)) := below_alloc w _
  have hbx := Cells.made w 37 a.cs
  obtain ⟨V1, V2, k1, hnew, ho3, ho4⟩ := k.start (.cells a.cs 37)
  have hb1 : w.heap.size < (w.alloc (.cells a.cs 37)).heap.size := by rw [World.size_alloc]; omega
  obtain ⟨kk, hk8, hc⟩ : ∃ kk, kk < 8 ∧ a.c % 8 = kk := ⟨_, Nat.mod_lt _ (by decide), rfl⟩
  have hP : Hid (actP a q p = if kk < 5 then p.wr kk q a.n a.t else if kk = 7 then p.blow else p) := by show _ = _; unfold actP; rw [hc]
  have hci : (a.c : Int) % 8 = (kk : Int) := by rw [← hc]; rfl
  have hcl := ha.c
  have HA := Lib.hid ha
  have K1 := Lib.hid k1
  have HX := Lib.hid hbx
  have HO1 := Lib.hid ho3
  have HO2 := Lib.hid ho4
  have HN := Lib.hid hnew
  have HG := Lib.hid hbg
  have HB1 := Lib.hid hb1
  clear ha k k1 hbx hal ho3 ho4 hnew hbg hbh hb1
  unfold Act3.cs at *
  have h8 : kk = 0 ∨ kk = 1 ∨ kk = 2 ∨ kk = 3 ∨ kk = 4 ∨ kk = 5 ∨ kk = 6 ∨ kk = 7 := by omega
  rcases h8 with rfl | rfl | rfl | rfl | rfl | rfl | rfl | rfl
  · have hPP : actP a q p = p.after (wrE 0 q p.E a.n a.t) := hP.out
    rw [hPP]
    clear hP hPP hc hk8
    go_enter Tryz.func10, Tryz.ntmps10
    go_wp2_with fail
    refine (pcreate_c a.n a.t _ K1.out.d HN.out HA.out.n HA.out.t hp).mono ?_
    rintro R w2 ⟨rfl, hd, ht⟩
    have hx2 := HX.out.tu ht (fun e => e.elim (fun e => HG.out e.symm) (fun e => HO1.out e))
    have k2 := (K1.out.s1 hd (after_ks _ _) ht).wide2
    have K2 := Lib.hid k2
    have c1 : w2.cell? ⟨w.heap.size, 1, none⟩ = some (.string (str a.n)) := hx2.cell 1
    have c2 : w2.cell? ⟨w.heap.size, 2, none⟩ = some (.string (str a.t)) := hx2.cell 2
    clear hd ht k2 hx2
    have hs0 : (.string ⟨#[]⟩ : Value) = .string (str []) := rfl
    go_wp2_with fail
    refine (rdo0_c a.n [] w2 K2.out.r (fun x hx => .inr hx) HA.out.n (by decide) hp).mono ?_
    rintro R w3 ⟨rfl, hr, ht⟩
    have K3 := Lib.hid (K2.out.s2 hr (after_ks _ _) ht)
    have he : p.code (wrR 0 q p.E a.n []) = p.code (wrR 0 q p.E a.n a.t) := rfl
    rw [he]
    clear hr ht c1 c2
    go_wp2
    go_ret
    exact ⟨rfl, ⟨_, _, K3.out⟩⟩
  · have hPP : actP a q p = p.after (wrE 1 q p.E a.n a.t) := hP.out
    rw [hPP]
    clear hP hPP hc hk8
    go_enter Tryz.func10, Tryz.ntmps10
    go_wp2_with fail
    refine (pappend_c a.n a.t _ K1.out.d HN.out HA.out.n HA.out.t hp).mono ?_
    rintro R w2 ⟨rfl, hd, ht⟩
    have hx2 := HX.out.tu ht (fun e => e.elim (fun e => HG.out e.symm) (fun e => HO1.out e))
    have k2 := (K1.out.s1 hd (after_ks _ _) ht).wide2
    have K2 := Lib.hid k2
    have c1 : w2.cell? ⟨w.heap.size, 1, none⟩ = some (.string (str a.n)) := hx2.cell 1
    have c2 : w2.cell? ⟨w.heap.size, 2, none⟩ = some (.string (str a.t)) := hx2.cell 2
    clear hd ht k2 hx2

    go_wp2_with fail
    refine (rdo1_c a.n a.t w2 K2.out.r (fun x hx => .inr hx) HA.out.n (by exact HA.out.t) hp).mono ?_
    rintro R w3 ⟨rfl, hr, ht⟩
    have K3 := Lib.hid (K2.out.s2 hr (after_ks _ _) ht)
    have he : p.code (wrR 1 q p.E a.n a.t) = p.code (wrR 1 q p.E a.n a.t) := rfl
    rw [he]
    clear hr ht c1 c2
    go_wp2
    go_ret
    exact ⟨rfl, ⟨_, _, K3.out⟩⟩
  · have hPP : actP a q p = p.after (wrE 2 q p.E a.n a.t) := hP.out
    rw [hPP]
    clear hP hPP hc hk8
    go_enter Tryz.func10, Tryz.ntmps10
    go_wp2_with fail
    refine (psync_c a.n a.t _ K1.out.d HN.out HA.out.n HA.out.t hp).mono ?_
    rintro R w2 ⟨rfl, hd, ht⟩
    have hx2 := HX.out.tu ht (fun e => e.elim (fun e => HG.out e.symm) (fun e => HO1.out e))
    have k2 := (K1.out.s1 hd (after_ks _ _) ht).wide2
    have K2 := Lib.hid k2
    have c1 : w2.cell? ⟨w.heap.size, 1, none⟩ = some (.string (str a.n)) := hx2.cell 1
    have c2 : w2.cell? ⟨w.heap.size, 2, none⟩ = some (.string (str a.t)) := hx2.cell 2
    clear hd ht k2 hx2
    have hs0 : (.string ⟨#[]⟩ : Value) = .string (str []) := rfl
    go_wp2_with fail
    refine (rdo2_c a.n [] w2 K2.out.r (fun x hx => .inr hx) HA.out.n (by decide) hp).mono ?_
    rintro R w3 ⟨rfl, hr, ht⟩
    have K3 := Lib.hid (K2.out.s2 hr (after_ks _ _) ht)
    have he : p.code (wrR 2 q p.E a.n []) = p.code (wrR 2 q p.E a.n a.t) := rfl
    rw [he]
    clear hr ht c1 c2
    go_wp2
    go_ret
    exact ⟨rfl, ⟨_, _, K3.out⟩⟩
  · have hPP : actP a q p = p.after (wrE 3 q p.E a.n a.t) := hP.out
    rw [hPP]
    clear hP hPP hc hk8
    go_enter Tryz.func10, Tryz.ntmps10
    go_wp2_with fail
    refine (prename_c a.n a.t _ K1.out.d HN.out HA.out.n HA.out.t hp).mono ?_
    rintro R w2 ⟨rfl, hd, ht⟩
    have hx2 := HX.out.tu ht (fun e => e.elim (fun e => HG.out e.symm) (fun e => HO1.out e))
    have k2 := (K1.out.s1 hd (after_ks _ _) ht).wide2
    have K2 := Lib.hid k2
    have c1 : w2.cell? ⟨w.heap.size, 1, none⟩ = some (.string (str a.n)) := hx2.cell 1
    have c2 : w2.cell? ⟨w.heap.size, 2, none⟩ = some (.string (str a.t)) := hx2.cell 2
    clear hd ht k2 hx2

    go_wp2_with fail
    refine (rdo3_c a.n a.t w2 K2.out.r (fun x hx => .inr hx) HA.out.n (by exact HA.out.t) hp).mono ?_
    rintro R w3 ⟨rfl, hr, ht⟩
    have K3 := Lib.hid (K2.out.s2 hr (after_ks _ _) ht)
    have he : p.code (wrR 3 q p.E a.n a.t) = p.code (wrR 3 q p.E a.n a.t) := rfl
    rw [he]
    clear hr ht c1 c2
    go_wp2
    go_ret
    exact ⟨rfl, ⟨_, _, K3.out⟩⟩
  · have hPP : actP a q p = p.after (wrE 4 q p.E a.n a.t) := hP.out
    rw [hPP]
    clear hP hPP hc hk8
    go_enter Tryz.func10, Tryz.ntmps10
    go_wp2_with fail
    refine (premove_c a.n a.t _ K1.out.d HN.out HA.out.n HA.out.t hp).mono ?_
    rintro R w2 ⟨rfl, hd, ht⟩
    have hx2 := HX.out.tu ht (fun e => e.elim (fun e => HG.out e.symm) (fun e => HO1.out e))
    have k2 := (K1.out.s1 hd (after_ks _ _) ht).wide2
    have K2 := Lib.hid k2
    have c1 : w2.cell? ⟨w.heap.size, 1, none⟩ = some (.string (str a.n)) := hx2.cell 1
    have c2 : w2.cell? ⟨w.heap.size, 2, none⟩ = some (.string (str a.t)) := hx2.cell 2
    clear hd ht k2 hx2
    have hs0 : (.string ⟨#[]⟩ : Value) = .string (str []) := rfl
    go_wp2_with fail
    refine (rdo4_c a.n [] w2 K2.out.r (fun x hx => .inr hx) HA.out.n (by decide) hp).mono ?_
    rintro R w3 ⟨rfl, hr, ht⟩
    have K3 := Lib.hid (K2.out.s2 hr (after_ks _ _) ht)
    have he : p.code (wrR 4 q p.E a.n []) = p.code (wrR 4 q p.E a.n a.t) := rfl
    rw [he]
    clear hr ht c1 c2
    go_wp2
    go_ret
    exact ⟨rfl, ⟨_, _, K3.out⟩⟩
  · have hPP : actP a q p = p := hP.out
    rw [hPP]
    clear hP hPP hc hk8
    go_enter Tryz.func10, Tryz.ntmps10
    go_wp2_with fail
    refine (pread_c a.n _ K1.out.d HA.out.n).mono ?_
    rintro R w2 ⟨rfl, hb2⟩
    have hx2 := HX.out.below hb2 HB1.out
    have K2 := Lib.hid (K1.out.new hb2)
    have c1 : w2.cell? ⟨w.heap.size, 1, none⟩ = some (.string (str a.n)) := hx2.cell 1
    clear hb2 hx2
    obtain ⟨r2, hr2⟩ : ∃ r2, p.rd a.n = r2 := ⟨_, rfl⟩
    rw [hr2]
    have HR2 := Lib.hid hr2
    clear hr2
    go_wp2_with fail
    refine (rpread_c a.n w2 K2.out.r HA.out.n).mono ?_
    rintro R w3 ⟨rfl, rfl⟩
    rw [HR2.out]
    have q1 := str_yes2 r2
    clear c1
    go_wp2
    go_ret
    exact ⟨rfl, ⟨_, _, K2.out⟩⟩
  · have hPP : actP a q p = p := hP.out
    rw [hPP]
    clear hP hPP hc hk8
    go_enter Tryz.func10, Tryz.ntmps10
    go_wp2_with fail
    refine (plist_c _ K1.out.d).mono ?_
    rintro R w2 ⟨u, rfl, hu, hb2⟩
    have K2 := Lib.hid (K1.out.new hb2)
    have HU := Lib.hid hu
    clear hb2 hu
    go_wp2_with fail
    refine (rplist_c w2 K2.out.r).mono ?_
    rintro R w3 ⟨v, rfl, hv, hb3⟩
    have K3 := Lib.hid (K2.out.new hb3)
    have HU3 := Lib.hid (HU.out.new hb3)
    have HV := Lib.hid hv
    clear hb3 hv HU
    have hnl : p.names.length ≤ 1000 := by unfold Pw.names; split; simp; rw [List.length_map]; exact hE
    go_wp2_with fail
    refine (texts_c HU3.out HV.out hnl).mono ?_
    rintro R w4 ⟨rfl, hb4⟩
    have K4 := Lib.hid (K3.out.new hb4)
    clear hb4
    go_wp2
    go_ret
    exact ⟨rfl, ⟨_, _, K4.out⟩⟩
  · have hPP : actP a q p = p.blow := hP.out
    rw [hPP]
    clear hP hPP hc hk8
    go_enter Tryz.func10, Tryz.ntmps10
    go_wp2_with fail
    refine (blow_c _ K1.out.d).mono ?_
    rintro R w2 ⟨rfl, hd, ht⟩
    have K2 := Lib.hid (K1.out.s1 hd (blow_ks _) ht).wide2
    clear hd ht
    go_wp2_with fail
    refine (rblow_c w2 K2.out.r).mono ?_
    rintro R w3 ⟨rfl, hr, ht⟩
    have K3 := Lib.hid (K2.out.s2 hr (blow_ks _) ht)
    clear hr ht
    go_wp2
    go_ret
    exact ⟨rfl, ⟨_, _, K3.out⟩⟩
end Go.Proofs.YthjhjbiihhpnfaaGreat
