/- DiskApart: the walk. -/
import Derived.Test.YtecchaogpcpooaaDy
namespace Go.Proofs.Ytecchaogpcpooaa
open Go.RowKit Go.Shelf
set_option linter.unusedVariables false
set_option linter.unusedSimpArgs false
set_option maxRecDepth 100000

theorem acs_all {w : World} {ao : Option Addr} {l : List Act2} (h : Acs w ao l) {k : Nat} (hk : k < l.length) : ∃ a : Act2, l[k]'hk = a ∧ a.ok w ∧ ∃ b o, ao = some ⟨b, o, none⟩ ∧
    (∀ W, Below w.heap.size w W → (ldAct (.pointer (some ⟨b, o + k * 5, none⟩))).run Try.prog W = .ok (.agg a.cs) W) ∧
    (∀ W, Below w.heap.size w W → W.cell? ⟨b, o + k * 5, none⟩ = some (.int .u8 (a.c : Int))) ∧
    (∀ W, Below w.heap.size w W → W.cell? ⟨b, o + k * 5 + 1, none⟩ = some (.string (str a.n))) ∧
    (∀ W, Below w.heap.size w W → W.cell? ⟨b, o + k * 5 + 2, none⟩ = some (.string (str a.t))) := by
  obtain ⟨b, o, e, hc, hok⟩ := h k hk
  refine ⟨_, rfl, hok, b, o, e, ?_, ?_, ?_, ?_⟩
  · intro W hW
    obtain ⟨b', o', e', hc', _⟩ := h.to hW k hk
    rw [e] at e'
    cases e'
    exact act_load hc'
  · intro W hW
    obtain ⟨b', o', e', hc', _⟩ := h.to hW k hk
    rw [e] at e'
    cases e'
    exact hc' 0 _ rfl
  · intro W hW
    obtain ⟨b', o', e', hc', _⟩ := h.to hW k hk
    rw [e] at e'
    cases e'
    exact hc' 1 _ rfl
  · intro W hW
    obtain ⟨b', o', e', hc', _⟩ := h.to hW k hk
    rw [e] at e'
    cases e'
    exact hc' 2 _ rfl
theorem str_tl (a : List UInt8) : (str a).toList = a := by rw [ByteArray.toList_eq]; simp [str]
theorem str_ne {a b : List UInt8} (h : a ≠ b) : ((str a).toList == (str b).toList) = false := by rw [str_tl, str_tl]; simpa using h
theorem str_eqv (l : List UInt8) : ((str l).toList == (str l).toList) = true := beq_self_eq_true _
theorem lst_slice {w : World} {B : Nat} {v : Value} {E : List Ent} (h : Lst w B v (E.map Ent.nm)) : ∃ uo uc, v = .slice uo E.length uc := by
  have hl : (E.map Ent.nm).length = E.length := List.length_map ..
  rcases h.2 with ⟨rfl, h0⟩ | ⟨g, cap, cur, rfl, _⟩
  · rw [hl] at h0; rw [h0]; exact ⟨_, _, rfl⟩
  · rw [hl]; exact ⟨_, _, rfl⟩
attribute [local go_sem ↓] ld_act
set_option maxHeartbeats 4000000 in
theorem law_apart (qi : Int) (l : List Act2) (lo : Option Addr) (cap : Nat) (n : List UInt8) (w : World) (hA : Acs w lo l) (hl : l.length ≤ maxLen) (hn : n.length ≤ maxLen) :
    Calls Try.prog 5 #[.int .i64 qi, .slice lo l.length cap, .string (str n)] w fun E w' => E = .returned (.bool true) ∧ Below w.heap.size w w' := by
  have HA := Lib.hid hA
  have HL := Lib.hid hl
  have HN := Lib.hid hn
  clear hA hl hn
  go_enter Try.func5, Try.ntmps5
  go_wp2_with fail
  refine (new_c qi w).mono ?_
  rintro R w1 ⟨hb1, ⟨hq1, hq2, v, rfl, hd1⟩ | ⟨hbad, rfl⟩⟩
  rotate_left
  · have HB1 := Lib.hid hb1
    clear hb1 hbad
    go_wp2_with fail
    refine (few_c w1 (HA.out.to HB1.out) HL.out).mono ?_
    rintro R w2 ⟨z, rfl, rfl⟩
    cases z
    all_goals (
      go_wp2_with fail
      refine (works_c w1).mono ?_
      rintro R w5 ⟨rfl, hb5⟩
      go_wp2
      go_ret
      exact ⟨rfl, HB1.out.trans (hb5.mono HB1.out.size)⟩)
  obtain ⟨q, rfl⟩ : ∃ q : Nat, qi = (q : Int) := ⟨qi.toNat, by omega⟩
  rw [Int.toNat_natCast] at hd1
  have hqm : q ≤ 1048576 := by omega
  obtain ⟨gd0, rfl⟩ := hd1.ptr
  have O1 : Hid (Own w.heap.size w w1 (.pointer (some ⟨gd0, 0, none⟩)) q []) := ⟨hd1, hb1, Nat.le_refl _⟩
  clear hd1 hb1 hq1 hq2
  go_wp2_with fail
  refine (few_c w1 (HA.out.to O1.out.be) HL.out).mono ?_
  rintro R w2 ⟨z, rfl, rfl⟩
  cases z
  · go_wp2_with fail
    refine (works_c w1).mono ?_
    rintro R w5 ⟨rfl, hb5⟩
    go_wp2
    go_ret
    exact ⟨rfl, O1.out.be.trans (hb5.mono O1.out.be.size)⟩
  have hlm : l.length < 9223372036854775808 := by have := HL.out; simp only [maxLen] at this; omega
  go_wp2
  go_loopw [8, 7] (fun i d wr => ∃ (k gd : Nat) (E : List Ent), k ≤ l.length ∧ i = .int .i64 k ∧ d = .pointer (some ⟨gd, 0, none⟩) ∧ Hid (Own w.heap.size w wr (.pointer (some ⟨gd, 0, none⟩)) q E)) (fun i _ _ => l.length - (intOf i).toNat)
  case atStart => exact ⟨0, gd0, [], Nat.zero_le _, rfl, rfl, O1.out⟩
  case round =>
    clear O1
    obtain ⟨k, gd, E, hk, rfl, rfl, O0⟩ := hrel
    by_cases hlt : k < l.length
    · have i2 : (k : Int) < (l.length : Int) := by omega
      obtain ⟨a, ha, hok, b, o, rfl, L0', C0', C1', C2'⟩ := acs_all HA.out hlt
      have HOK := Lib.hid hok
      have L0 := Lib.hid L0'
      have C0 := Lib.hid C0'
      have C1 := Lib.hid C1'
      have C2 := Lib.hid C2'
      have hcl := hok.c
      clear ha hok L0' C0' C1' C2'
      obtain ⟨r, hr⟩ : ∃ r, rd E n = r := ⟨_, rfl⟩
      obtain ⟨ef, hef⟩ : ∃ ef, eFind E n = ef := ⟨_, rfl⟩
      obtain ⟨sn, hsn⟩ : ∃ sn, sy E n = sn := ⟨_, rfl⟩
      have HR := Lib.hid hr
      have HEF := Lib.hid hef
      have HSN := Lib.hid hsn
      clear hr hef hsn
      have q1 := str_eqv r
      go_wp2_with fail
      refine (read_c n wr O0.out.dk HN.out).mono ?_
      rintro R w2 ⟨rfl, hb2⟩
      rw [HR.out, HEF.out]
      have O2 := Lib.hid (O0.out.new hb2)
      clear hb2 O0
      go_wp2_with fail
      refine (synced_c n w2 O2.out.dk HN.out).mono ?_
      rintro R w3 ⟨rfl, hb3⟩
      rw [HSN.out]
      have O3 := Lib.hid (O2.out.new hb3)
      clear hb3 O2
      go_wp2_with fail
      refine (copy_c w3 O3.out.dk).mono ?_
      rintro R w4 ⟨vc, rfl, hdc, hb4⟩
      obtain ⟨N, hN⟩ : ∃ N, w3.heap.size = N := ⟨_, rfl⟩
      have HWN := Lib.hid (show w.heap.size ≤ N by rw [← hN]; exact O3.out.be.size)
      rw [hN] at hdc
      have HF4 : Hid (DkS (fun x => w.heap.size ≤ x ∧ x < N) w4 (.pointer (some ⟨gd, 0, none⟩)) q E) := (O3.out.dk.mono (fun x hx hs => ⟨hs, by omega⟩)).new hb4
      have HB4 : Hid (Below w.heap.size w w4) := O3.out.be.trans (hb4.mono O3.out.be.size)
      have HDC := Lib.hid hdc
      have HG4 : Hid (N ≤ w4.heap.size) := by have := hb4.size; show N ≤ _; omega
      have l0 := L0.out w4 HB4.out
      clear hN hdc hb4 O3
      go_wp2_with fail
      refine (do_c a w4 HDC.out (fun x hx => Nat.le_trans HG4.out hx) (HOK.out.to HB4.out) (fun x hx hn => by have := HOK.out.lo x hx hn; have := HWN.out; show ¬ N ≤ x.block; omega)).mono ?_
      rintro R w5 ⟨va, rfl, hda, hta⟩
      obtain ⟨ga, rfl⟩ := hda.ptr
      have HDA := Lib.hid hda
      have HF5 := Lib.hid (Own.far HF4.out hta)
      have HB5 : Hid (Below w.heap.size w w5) := HB4.out.trans (hta.below (fun x hx => by have := HWN.out; omega) HB4.out.size)
      clear hda hta HDC HF4 HB4 HG4 l0
      go_wp2_with fail
      refine (read_c n w5 HF5.out HN.out).mono ?_
      rintro R w6 ⟨rfl, hb6⟩
      rw [HR.out, HEF.out]
      have HF6 := Lib.hid (HF5.out.new hb6)
      have HDA6 := Lib.hid (HDA.out.new hb6)
      have HB6 := Lib.hid (HB5.out.trans (hb6.mono HB5.out.size))
      clear hb6 HF5 HDA HB5
      go_wp2_with fail
      refine (synced_c n w6 HF6.out HN.out).mono ?_
      rintro R w7 ⟨rfl, hb7⟩
      rw [HSN.out]
      have HF7 := Lib.hid (HF6.out.new hb7)
      have HDA7 := Lib.hid (HDA6.out.new hb7)
      have HB7 := Lib.hid (HB6.out.trans (hb7.mono HB6.out.size))
      clear hb7 HF6 HDA6 HB6
      have c0 := C0.out w7 HB7.out
      have c1 := C1.out w7 HB7.out
      have c2 := C2.out w7 HB7.out
      obtain ⟨c, hce⟩ : ∃ c : Nat, a.c % 8 = c := ⟨_, rfl⟩
      have hci : (a.c : Int) % 8 = (c : Int) := by rw [← hce]; rfl
      have hc8 : c < 8 := by omega
      obtain ⟨an, han⟩ : ∃ an, a.n = an := ⟨_, rfl⟩
      obtain ⟨at', hat⟩ : ∃ at', a.t = at' := ⟨_, rfl⟩
      have HCE := Lib.hid hce
      have HAN := Lib.hid han
      have HAT := Lib.hid hat
      rw [han] at c1
      rw [hat] at c2
      clear hce han hat
      by_cases h1 : an = n
      · have h1' := h1.symm; subst h1'
        have e1 := str_eqv n
        go_wp2_with fail
        refine (read_c n w7 HDA7.out HN.out).mono ?_
        rintro R w8 ⟨rfl, hb8⟩
        have HF8 := Lib.hid (HF7.out.new hb8)
        have HDA8 := Lib.hid (HDA7.out.new hb8)
        have HB8 := Lib.hid (HB7.out.trans (hb8.mono HB7.out.size))
        clear hb8 HF7 HDA7 HB7 c0 c1 c2
        have HDK := Lib.hid (HF8.out.mono (S' := fun x => w.heap.size ≤ x) (fun x _ hs => hs.1))
        have l0 := L0.out w8 HB8.out
        go_wp2_with fail
        refine (do_c a w8 HDK.out (fun x hx => Nat.le_trans HB8.out.size hx) (HOK.out.to HB8.out) (fun x hx hn => by have := HOK.out.lo x hx hn; show ¬ _ ≤ _; omega)).mono ?_
        rintro R w10 ⟨vd, rfl, hdd, htd⟩
        obtain ⟨gz, rfl⟩ := hdd.ptr
        have OX : Hid (Own w.heap.size w w10 (.pointer (some ⟨gz, 0, none⟩)) q (actE a q E)) := ⟨hdd, HB8.out.trans (htd.below (fun x hx => by omega) HB8.out.size), Nat.le_refl _⟩
        clear hdd htd HDK l0 HF8 HB8 HDA8
        generalize actE a q E = E' at *
        have hg := OX.out.dk.good
        have hlen64 : E'.length ≤ 64 := hg.len
        have huse : used E' ≤ q := hg.use
        have hml : (E'.map Ent.nm).length = E'.length := List.length_map ..
        clear hg
        go_wp2_with fail
        refine (list_s w10 OX.out.dk).mono ?_
        rintro R w11 ⟨u, rfl, hu, hb11⟩
        obtain ⟨uo, uc, rfl⟩ : ∃ uo uc, u = .slice uo E'.length uc := lst_slice hu
        have OY := Lib.hid (OX.out.new hb11)
        clear hu hb11 OX
        go_wp2_with fail
        refine (used_s w11 OY.out.dk).mono ?_
        rintro R w12 ⟨rfl, hb12⟩
        have OZ := Lib.hid (OY.out.new hb12)
        clear hb12 OY
        go_wp2_with fail
        refine (used_s w12 OZ.out.dk).mono ?_
        rintro R w13 ⟨rfl, hb13⟩
        have OW := Lib.hid (OZ.out.new hb13)
        clear hb13 OZ
        go_wp2
        go_round
        case rel => exact ⟨k + 1, gz, E', by omega, by go_num, rfl, OW.out⟩
        case measure => simp [intOf]; omega
      · have e1 := str_ne h1
        by_cases h4 : c = 4
        · have i4 : (c : Int) = 4 := by omega
          have j4 : ¬ (c : Int) = 6 := by omega
          by_cases h2 : at' = n
          · have e2 := str_eqv n
            have h2' := h2.symm
            subst h2'
            go_wp2_with fail
            refine (read_c n w7 HDA7.out HN.out).mono ?_
            rintro R w8 ⟨rfl, hb8⟩
            have HF8 := Lib.hid (HF7.out.new hb8)
            have HDA8 := Lib.hid (HDA7.out.new hb8)
            have HB8 := Lib.hid (HB7.out.trans (hb8.mono HB7.out.size))
            clear hb8 HF7 HDA7 HB7 c0 c1 c2
            have HDK := Lib.hid (HF8.out.mono (S' := fun x => w.heap.size ≤ x) (fun x _ hs => hs.1))
            have l0 := L0.out w8 HB8.out
            go_wp2_with fail
            refine (do_c a w8 HDK.out (fun x hx => Nat.le_trans HB8.out.size hx) (HOK.out.to HB8.out) (fun x hx hn => by have := HOK.out.lo x hx hn; show ¬ _ ≤ _; omega)).mono ?_
            rintro R w10 ⟨vd, rfl, hdd, htd⟩
            obtain ⟨gz, rfl⟩ := hdd.ptr
            have OX : Hid (Own w.heap.size w w10 (.pointer (some ⟨gz, 0, none⟩)) q (actE a q E)) := ⟨hdd, HB8.out.trans (htd.below (fun x hx => by omega) HB8.out.size), Nat.le_refl _⟩
            clear hdd htd HDK l0 HF8 HB8 HDA8
            generalize actE a q E = E' at *
            have hg := OX.out.dk.good
            have hlen64 : E'.length ≤ 64 := hg.len
            have huse : used E' ≤ q := hg.use
            have hml : (E'.map Ent.nm).length = E'.length := List.length_map ..
            clear hg
            go_wp2_with fail
            refine (list_s w10 OX.out.dk).mono ?_
            rintro R w11 ⟨u, rfl, hu, hb11⟩
            obtain ⟨uo, uc, rfl⟩ : ∃ uo uc, u = .slice uo E'.length uc := lst_slice hu
            have OY := Lib.hid (OX.out.new hb11)
            clear hu hb11 OX
            go_wp2_with fail
            refine (used_s w11 OY.out.dk).mono ?_
            rintro R w12 ⟨rfl, hb12⟩
            have OZ := Lib.hid (OY.out.new hb12)
            clear hb12 OY
            go_wp2_with fail
            refine (used_s w12 OZ.out.dk).mono ?_
            rintro R w13 ⟨rfl, hb13⟩
            have OW := Lib.hid (OZ.out.new hb13)
            clear hb13 OZ
            go_wp2
            go_round
            case rel => exact ⟨k + 1, gz, E', by omega, by go_num, rfl, OW.out⟩
            case measure => simp [intOf]; omega
          · have e2 := str_ne h2
            have d1 : an ≠ n := h1
            have d2 : c = 4 → at' ≠ n := fun _ => h2
            have d3 : c ≠ 6 := by omega
            have HAW : Hid (away a n) := ⟨by rw [HAN.out]; exact d1, by rw [HCE.out, HAT.out]; exact d2, by rw [HCE.out]; exact d3⟩
            obtain ⟨s1, s2, s3⟩ := same_rd (act_away q E HAW.out)
            rw [HR.out] at s1
            rw [HSN.out] at s2
            rw [HEF.out] at s3
            have HS1 := Lib.hid s1
            have HS2 := Lib.hid s2
            have HS3 := Lib.hid s3
            clear s1 s2 s3 d1 d2 d3
            go_wp2_with fail
            refine (read_c n w7 HDA7.out HN.out).mono ?_
            rintro R w8 ⟨rfl, hb8⟩
            have HF8 := Lib.hid (HF7.out.new hb8)
            have HDA8 := Lib.hid (HDA7.out.new hb8)
            have HB8 := Lib.hid (HB7.out.trans (hb8.mono HB7.out.size))
            clear hb8 HF7 HDA7 HB7 c0 c1 c2
            rw [HS1.out, HS3.out]
            go_wp2_with fail
            refine (synced_c n w8 HDA8.out HN.out).mono ?_
            rintro R w9 ⟨rfl, hb9⟩
            rw [HS2.out]
            have HF9 := Lib.hid (HF8.out.new hb9)
            have HDA9 := Lib.hid (HDA8.out.new hb9)
            have HB9 := Lib.hid (HB8.out.trans (hb9.mono HB8.out.size))
            clear hb9 HF8 HDA8 HB8
            have HDK := Lib.hid (HF9.out.mono (S' := fun x => w.heap.size ≤ x) (fun x _ hs => hs.1))
            have l0 := L0.out w9 HB9.out
            go_wp2_with fail
            refine (do_c a w9 HDK.out (fun x hx => Nat.le_trans HB9.out.size hx) (HOK.out.to HB9.out) (fun x hx hn => by have := HOK.out.lo x hx hn; show ¬ _ ≤ _; omega)).mono ?_
            rintro R w10 ⟨vd, rfl, hdd, htd⟩
            obtain ⟨gz, rfl⟩ := hdd.ptr
            have OX : Hid (Own w.heap.size w w10 (.pointer (some ⟨gz, 0, none⟩)) q (actE a q E)) := ⟨hdd, HB9.out.trans (htd.below (fun x hx => by omega) HB9.out.size), Nat.le_refl _⟩
            clear hdd htd HDK l0 HF9 HB9 HDA9
            generalize actE a q E = E' at *
            have hg := OX.out.dk.good
            have hlen64 : E'.length ≤ 64 := hg.len
            have huse : used E' ≤ q := hg.use
            have hml : (E'.map Ent.nm).length = E'.length := List.length_map ..
            clear hg
            go_wp2_with fail
            refine (list_s w10 OX.out.dk).mono ?_
            rintro R w11 ⟨u, rfl, hu, hb11⟩
            obtain ⟨uo, uc, rfl⟩ : ∃ uo uc, u = .slice uo E'.length uc := lst_slice hu
            have OY := Lib.hid (OX.out.new hb11)
            clear hu hb11 OX
            go_wp2_with fail
            refine (used_s w11 OY.out.dk).mono ?_
            rintro R w12 ⟨rfl, hb12⟩
            have OZ := Lib.hid (OY.out.new hb12)
            clear hb12 OY
            go_wp2_with fail
            refine (used_s w12 OZ.out.dk).mono ?_
            rintro R w13 ⟨rfl, hb13⟩
            have OW := Lib.hid (OZ.out.new hb13)
            clear hb13 OZ
            go_wp2
            go_round
            case rel => exact ⟨k + 1, gz, E', by omega, by go_num, rfl, OW.out⟩
            case measure => simp [intOf]; omega
        · have i4 : ¬ (c : Int) = 4 := by omega
          by_cases h6 : c = 6
          · have i6 : (c : Int) = 6 := by omega
            go_wp2_with fail
            refine (read_c n w7 HDA7.out HN.out).mono ?_
            rintro R w8 ⟨rfl, hb8⟩
            have HF8 := Lib.hid (HF7.out.new hb8)
            have HDA8 := Lib.hid (HDA7.out.new hb8)
            have HB8 := Lib.hid (HB7.out.trans (hb8.mono HB7.out.size))
            clear hb8 HF7 HDA7 HB7 c0 c1 c2
            have HDK := Lib.hid (HF8.out.mono (S' := fun x => w.heap.size ≤ x) (fun x _ hs => hs.1))
            have l0 := L0.out w8 HB8.out
            go_wp2_with fail
            refine (do_c a w8 HDK.out (fun x hx => Nat.le_trans HB8.out.size hx) (HOK.out.to HB8.out) (fun x hx hn => by have := HOK.out.lo x hx hn; show ¬ _ ≤ _; omega)).mono ?_
            rintro R w10 ⟨vd, rfl, hdd, htd⟩
            obtain ⟨gz, rfl⟩ := hdd.ptr
            have OX : Hid (Own w.heap.size w w10 (.pointer (some ⟨gz, 0, none⟩)) q (actE a q E)) := ⟨hdd, HB8.out.trans (htd.below (fun x hx => by omega) HB8.out.size), Nat.le_refl _⟩
            clear hdd htd HDK l0 HF8 HB8 HDA8
            generalize actE a q E = E' at *
            have hg := OX.out.dk.good
            have hlen64 : E'.length ≤ 64 := hg.len
            have huse : used E' ≤ q := hg.use
            have hml : (E'.map Ent.nm).length = E'.length := List.length_map ..
            clear hg
            go_wp2_with fail
            refine (list_s w10 OX.out.dk).mono ?_
            rintro R w11 ⟨u, rfl, hu, hb11⟩
            obtain ⟨uo, uc, rfl⟩ : ∃ uo uc, u = .slice uo E'.length uc := lst_slice hu
            have OY := Lib.hid (OX.out.new hb11)
            clear hu hb11 OX
            go_wp2_with fail
            refine (used_s w11 OY.out.dk).mono ?_
            rintro R w12 ⟨rfl, hb12⟩
            have OZ := Lib.hid (OY.out.new hb12)
            clear hb12 OY
            go_wp2_with fail
            refine (used_s w12 OZ.out.dk).mono ?_
            rintro R w13 ⟨rfl, hb13⟩
            have OW := Lib.hid (OZ.out.new hb13)
            clear hb13 OZ
            go_wp2
            go_round
            case rel => exact ⟨k + 1, gz, E', by omega, by go_num, rfl, OW.out⟩
            case measure => simp [intOf]; omega
          · have i6 : ¬ (c : Int) = 6 := by omega
            have d1 : an ≠ n := h1
            have d2 : c = 4 → at' ≠ n := fun h => absurd h h4
            have d3 : c ≠ 6 := h6
            have HAW : Hid (away a n) := ⟨by rw [HAN.out]; exact d1, by rw [HCE.out, HAT.out]; exact d2, by rw [HCE.out]; exact d3⟩
            obtain ⟨s1, s2, s3⟩ := same_rd (act_away q E HAW.out)
            rw [HR.out] at s1
            rw [HSN.out] at s2
            rw [HEF.out] at s3
            have HS1 := Lib.hid s1
            have HS2 := Lib.hid s2
            have HS3 := Lib.hid s3
            clear s1 s2 s3 d1 d2 d3
            go_wp2_with fail
            refine (read_c n w7 HDA7.out HN.out).mono ?_
            rintro R w8 ⟨rfl, hb8⟩
            have HF8 := Lib.hid (HF7.out.new hb8)
            have HDA8 := Lib.hid (HDA7.out.new hb8)
            have HB8 := Lib.hid (HB7.out.trans (hb8.mono HB7.out.size))
            clear hb8 HF7 HDA7 HB7 c0 c1 c2
            rw [HS1.out, HS3.out]
            go_wp2_with fail
            refine (synced_c n w8 HDA8.out HN.out).mono ?_
            rintro R w9 ⟨rfl, hb9⟩
            rw [HS2.out]
            have HF9 := Lib.hid (HF8.out.new hb9)
            have HDA9 := Lib.hid (HDA8.out.new hb9)
            have HB9 := Lib.hid (HB8.out.trans (hb9.mono HB8.out.size))
            clear hb9 HF8 HDA8 HB8
            have HDK := Lib.hid (HF9.out.mono (S' := fun x => w.heap.size ≤ x) (fun x _ hs => hs.1))
            have l0 := L0.out w9 HB9.out
            go_wp2_with fail
            refine (do_c a w9 HDK.out (fun x hx => Nat.le_trans HB9.out.size hx) (HOK.out.to HB9.out) (fun x hx hn => by have := HOK.out.lo x hx hn; show ¬ _ ≤ _; omega)).mono ?_
            rintro R w10 ⟨vd, rfl, hdd, htd⟩
            obtain ⟨gz, rfl⟩ := hdd.ptr
            have OX : Hid (Own w.heap.size w w10 (.pointer (some ⟨gz, 0, none⟩)) q (actE a q E)) := ⟨hdd, HB9.out.trans (htd.below (fun x hx => by omega) HB9.out.size), Nat.le_refl _⟩
            clear hdd htd HDK l0 HF9 HB9 HDA9
            generalize actE a q E = E' at *
            have hg := OX.out.dk.good
            have hlen64 : E'.length ≤ 64 := hg.len
            have huse : used E' ≤ q := hg.use
            have hml : (E'.map Ent.nm).length = E'.length := List.length_map ..
            clear hg
            go_wp2_with fail
            refine (list_s w10 OX.out.dk).mono ?_
            rintro R w11 ⟨u, rfl, hu, hb11⟩
            obtain ⟨uo, uc, rfl⟩ : ∃ uo uc, u = .slice uo E'.length uc := lst_slice hu
            have OY := Lib.hid (OX.out.new hb11)
            clear hu hb11 OX
            go_wp2_with fail
            refine (used_s w11 OY.out.dk).mono ?_
            rintro R w12 ⟨rfl, hb12⟩
            have OZ := Lib.hid (OY.out.new hb12)
            clear hb12 OY
            go_wp2_with fail
            refine (used_s w12 OZ.out.dk).mono ?_
            rintro R w13 ⟨rfl, hb13⟩
            have OW := Lib.hid (OZ.out.new hb13)
            clear hb13 OZ
            go_wp2
            go_round
            case rel => exact ⟨k + 1, gz, E', by omega, by go_num, rfl, OW.out⟩
            case measure => simp [intOf]; omega
    · have hx : k = l.length := by omega
      have HX := Lib.hid hx
      have i2 : ¬ (k : Int) < (l.length : Int) := by omega
      clear hx
      go_wp2_with fail
      refine (works_c wr).mono ?_
      rintro R w5 ⟨rfl, hb5⟩
      go_wp2
      go_ret
      exact ⟨rfl, O0.out.be.trans (hb5.mono O0.out.be.size)⟩
end Go.Proofs.Ytecchaogpcpooaa
