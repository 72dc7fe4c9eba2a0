/- DiskPlays: the walk. -/
import Derived.Test.YtecchaogpcpooaaEm
namespace Go.Proofs.Ytecchaogpcpooaa
open Go.RowKit Go.Shelf
set_option linter.unusedVariables false
set_option linter.unusedSimpArgs false
set_option maxRecDepth 100000

/-- Both disks: in blocks apart, of the run's own. -/
structure Both (w0 w : World) (v : Value) (g q : Nat) (E1 E2 : List Ent) (S1 S2 : Nat → Prop) : Prop where
  d : DkS S1 w v q E1
  r : RkS S2 w (.pointer (some ⟨g, 0, none⟩)) q E2
  ap : ∀ x, S1 x → ¬ S2 x
  lo1 : ∀ x, S1 x → w0.heap.size ≤ x
  lo2 : ∀ x, S2 x → w0.heap.size ≤ x
  be : Below w0.heap.size w0 w
def BothS (w0 w : World) (v : Value) (g q : Nat) (E : List Ent) : Prop := ∃ S1 S2, Both w0 w v g q E E S1 S2
section
variable {w0 w w1 : World} {v v' : Value} {g g' q : Nat} {E E1 E2 : List Ent} {S1 S2 : Nat → Prop}
theorem Both.s1 (h : Both w0 w v g q E1 E2 S1 S2) (hd : DkS (fun x => S1 x ∨ w.heap.size ≤ x) w1 v' q E) (ht : Tu (fun x => S1 x ∨ w.heap.size ≤ x) w w1) :
    Both w0 w1 v' g q E E2 (fun x => S1 x ∨ w.heap.size ≤ x) (fun x => S2 x ∧ x < w.heap.size) := by
  have hsz := h.be.size
  refine ⟨hd, (h.r.mono (fun x hx hs => ⟨hs, hx⟩)).tu ht (fun x hx hs hn => ?_), fun x hx hn => ?_, fun x hx => ?_, fun x hx => h.lo2 x hx.1, h.be.trans (ht.below (fun x hx hn => ?_) hsz)⟩
  · rcases hn with hn | hn
    · exact h.ap x hn hs.1
    · omega
  · rcases hx with hx | hx
    · exact h.ap x hx hn.1
    · have := hn.2; omega
  · rcases hx with hx | hx
    · exact h.lo1 x hx
    · omega
  · rcases hn with hn | hn
    · have := h.lo1 x hn; omega
    · omega
theorem Both.s2 (h : Both w0 w v g q E1 E2 S1 S2) (hr : RkS (fun x => S2 x ∨ w.heap.size ≤ x) w1 (.pointer (some ⟨g', 0, none⟩)) q E) (ht : Tu (fun x => S2 x ∨ w.heap.size ≤ x) w w1) :
    Both w0 w1 v g' q E1 E (fun x => S1 x ∧ x < w.heap.size) (fun x => S2 x ∨ w.heap.size ≤ x) := by
  have hsz := h.be.size
  refine ⟨(h.d.mono (fun x hx hs => ⟨hs, hx⟩)).tu ht (fun x hx hs hn => ?_), hr, fun x hx hn => ?_, fun x hx => h.lo1 x hx.1, fun x hx => ?_, h.be.trans (ht.below (fun x hx hn => ?_) hsz)⟩
  · rcases hn with hn | hn
    · exact h.ap x hs.1 hn
    · omega
  · rcases hn with hn | hn
    · exact h.ap x hx.1 hn
    · have := hx.2; omega
  · rcases hx with hx | hx
    · exact h.lo2 x hx
    · omega
  · rcases hn with hn | hn
    · have := h.lo2 x hn; omega
    · omega
theorem Both.new (h : Both w0 w v g q E1 E2 S1 S2) (hb : Below w.heap.size w w1) : Both w0 w1 v g q E1 E2 S1 S2 :=
  ⟨h.d.new hb, h.r.new hb, h.ap, h.lo1, h.lo2, h.be.trans (hb.mono h.be.size)⟩
theorem Both.far (h : Both w0 w v g q E1 E2 S1 S2) {x : Nat} (hx : x < w0.heap.size) : ¬ (S1 x ∨ w.heap.size ≤ x) ∧ ¬ (S2 x ∨ w.heap.size ≤ x) := by
  have hsz := h.be.size
  constructor
  · rintro (hn | hn)
    · have := h.lo1 x hn; omega
    · omega
  · rintro (hn | hn)
    · have := h.lo2 x hn; omega
    · omega
theorem Both.wide (h : Both w0 w v g q E1 E2 S1 S2) : DkS (fun x => S1 x ∨ w.heap.size ≤ x) w v q E1 ∧ RkS (fun x => S2 x ∨ w.heap.size ≤ x) w (.pointer (some ⟨g, 0, none⟩)) q E2 :=
  ⟨h.d.mono (fun _ _ hs => .inl hs), h.r.mono (fun _ _ hs => .inl hs)⟩
end
theorem acs_one {w : World} {ao : Option Addr} {l : List Act2} (h : Acs w ao l) {k : Nat} (hk : k < l.length) : ∃ a : Act2, a.ok w ∧ ∃ b o, ao = some ⟨b, o, none⟩ ∧
    (∀ W, Below w.heap.size w W → (ldAct (.pointer (some ⟨b, o + k * 5, none⟩))).run Try.prog W = .ok (.agg a.cs) W) ∧
    (∀ W, Below w.heap.size w W → W.cell? ⟨b, o + k * 5 + 1, none⟩ = some (.string (str a.n))) := by
  obtain ⟨b, o, e, hc, hok⟩ := h k hk
  refine ⟨_, hok, b, o, e, ?_, ?_⟩
  · intro W hW
    obtain ⟨b', o', e', hc', _⟩ := h.to hW k hk
    rw [e] at e'
    cases e'
    exact act_load hc'
  · intro W hW
    obtain ⟨b', o', e', hc', _⟩ := h.to hW k hk
    rw [e] at e'
    cases e'
    exact hc' 1 _ rfl
attribute [local go_sem ↓] ld_act
set_option maxHeartbeats 4000000 in
theorem law_plays (qi : Int) (l : List Act2) (lo : Option Addr) (cap : Nat) (w : World) (hA : Acs w lo l) (hl : l.length ≤ maxLen) :
    Calls Try.prog 3 #[.int .i64 qi, .slice lo l.length cap] w fun E w' => E = .returned (.bool true) ∧ Below w.heap.size w w' := by
  have HA := Lib.hid hA
  have HL := Lib.hid hl
  have hlm : l.length < 9223372036854775808 := by simp only [maxLen] at hl; omega
  clear hA hl
  go_enter Try.func3, Try.ntmps3
  go_wp2_with fail
  refine (new_c qi w).mono ?_
  rintro R w1 ⟨hb1, ⟨hq1, hq2, v, rfl, hd1⟩ | ⟨hbad, rfl⟩⟩
  rotate_left
  · have HB1 := Lib.hid hb1
    clear hb1
    go_wp2_with fail
    refine (rnew_c qi w1).mono ?_
    rintro R w2 ⟨hb2, ⟨hq1, hq2, _⟩ | ⟨_, rfl⟩⟩
    · omega
    have HB2 := Lib.hid (HB1.out.trans (hb2.mono HB1.out.size))
    clear hb2 hbad HB1
    go_wp2_with fail
    refine (few_c w2 (HA.out.to HB2.out) HL.out).mono ?_
    rintro R w3 ⟨z, rfl, rfl⟩
    cases z
    · go_wp2_with fail
      refine (works_c w2).mono ?_
      rintro R w5 ⟨rfl, hb5⟩
      go_wp2
      go_ret
      exact ⟨rfl, HB2.out.trans (hb5.mono HB2.out.size)⟩
    go_wp2
    go_loopw [7, 5, 6] (fun i d r wr => ∃ k : Nat, k ≤ l.length ∧ i = .int .i64 k ∧ d = .pointer none ∧ r = .pointer none ∧ Hid (Below w.heap.size w wr)) (fun i _ _ _ => l.length - (intOf i).toNat)
    case atStart => exact ⟨0, Nat.zero_le _, rfl, rfl, rfl, HB2.out⟩
    case round =>
      clear HB2
      obtain ⟨k, hk, rfl, rfl, rfl, HB⟩ := hrel
      by_cases hlt : k < l.length
      · have i2 : (k : Int) < (l.length : Int) := by omega
        obtain ⟨a, hok, b, o, rfl, L0', C1'⟩ := acs_one HA.out hlt
        have HOK := Lib.hid hok
        have L0 := Lib.hid L0'
        have C1 := Lib.hid C1'
        clear hok L0' C1'
        obtain ⟨r, hr⟩ : ∃ r, actN a = r := ⟨_, rfl⟩
        have HR := Lib.hid hr
        clear hr
        have l0 := L0.out wr HB.out
        go_wp2_with fail
        refine (do_nil a wr (HOK.out.to HB.out)).mono ?_
        rintro R w2 ⟨rfl, hb2⟩
        rw [HR.out]
        have HB2 := Lib.hid (HB.out.trans (hb2.mono HB.out.size))
        clear hb2 l0 HB
        have l0 := L0.out w2 HB2.out
        go_wp2_with fail
        refine (their_nil a w2 (HOK.out.to HB2.out)).mono ?_
        rintro R w3 ⟨rfl, hb3⟩
        rw [HR.out]
        have HB3 := Lib.hid (HB2.out.trans (hb3.mono HB2.out.size))
        clear hb3 l0 HB2
        have c1 := C1.out w3 HB3.out
        go_wp2_with fail
        refine (alike_nil a.n w3).mono ?_
        rintro R w4 ⟨rfl, hb4⟩
        have HB4 := Lib.hid (HB3.out.trans (hb4.mono HB3.out.size))
        clear hb4 c1 HB3
        go_wp2
        go_round
        case rel => exact ⟨k + 1, by omega, by go_num, rfl, rfl, HB4.out⟩
        case measure => simp [intOf]; omega
      · have hx : k = l.length := by omega
        have HX := Lib.hid hx
        have i2 : ¬ (k : Int) < (l.length : Int) := by omega
        clear hx
        go_wp2_with fail
        refine (works_c wr).mono ?_
        rintro R w5 ⟨rfl, hb5⟩
        go_wp2
        go_ret
        exact ⟨rfl, HB.out.trans (hb5.mono HB.out.size)⟩
  obtain ⟨q, rfl⟩ : ∃ q : Nat, qi = (q : Int) := ⟨qi.toNat, by omega⟩
  rw [Int.toNat_natCast] at hd1
  obtain ⟨gd0, rfl⟩ := hd1.ptr
  have HD1 := Lib.hid hd1
  have HB1 := Lib.hid hb1
  clear hd1 hb1
  go_wp2_with fail
  refine (rnew_c q w1).mono ?_
  rintro R w2 ⟨hb2, ⟨_, _, v, rfl, hd2⟩ | ⟨hbad, _⟩⟩
  rotate_left
  · omega
  rw [Int.toNat_natCast] at hd2
  obtain ⟨g0, rfl⟩ := hd2.ptr
  have O1 : Hid (BothS w w2 (.pointer (some ⟨gd0, 0, none⟩)) g0 q []) := by
    refine ⟨fun x => w.heap.size ≤ x ∧ x < w1.heap.size, fun x => w1.heap.size ≤ x, (HD1.out.mono (fun x hx hs => ⟨hs, hx⟩)).new hb2, hd2, fun x hx hn => ?_, fun x hx => hx.1, fun x hx => Nat.le_trans HB1.out.size hx, HB1.out.trans (hb2.mono HB1.out.size)⟩
    have := hx.2
    omega
  have HB2 := Lib.hid (HB1.out.trans (hb2.mono HB1.out.size))
  clear hd2 hb2 hq1 hq2 HD1 HB1
  go_wp2_with fail
  refine (few_c w2 (HA.out.to HB2.out) HL.out).mono ?_
  rintro R w3 ⟨z, rfl, rfl⟩
  cases z
  · go_wp2_with fail
    refine (works_c w2).mono ?_
    rintro R w5 ⟨rfl, hb5⟩
    go_wp2
    go_ret
    exact ⟨rfl, HB2.out.trans (hb5.mono HB2.out.size)⟩
  clear HB2
  go_wp2
  go_loopw [7, 5, 6] (fun i d r wr => ∃ (k gd g : Nat) (E : List Ent), k ≤ l.length ∧ i = .int .i64 k ∧ d = .pointer (some ⟨gd, 0, none⟩) ∧ r = .pointer (some ⟨g, 0, none⟩) ∧ Hid (BothS w wr (.pointer (some ⟨gd, 0, none⟩)) g q E)) (fun i _ _ _ => l.length - (intOf i).toNat)
  case atStart => exact ⟨0, gd0, g0, [], Nat.zero_le _, rfl, rfl, rfl, O1.out⟩
  case round =>
    clear O1
    obtain ⟨k, gd, g, E, hk, rfl, rfl, rfl, O0⟩ := hrel
    obtain ⟨S1, S2, h0⟩ := O0.out
    have HO := Lib.hid h0
    clear h0 O0
    by_cases hlt : k < l.length
    · have i2 : (k : Int) < (l.length : Int) := by omega
      obtain ⟨a, hok, b, o, rfl, L0', C1'⟩ := acs_one HA.out hlt
      have HOK := Lib.hid hok
      have L0 := Lib.hid L0'
      have C1 := Lib.hid C1'
      clear hok L0' C1'
      obtain ⟨r, hr⟩ : ∃ r, actR a q E = r := ⟨_, rfl⟩
      obtain ⟨E', hE⟩ : ∃ E', actE a q E = E' := ⟨_, rfl⟩
      have HR := Lib.hid hr
      have HE := Lib.hid hE
      clear hr hE
      have l0 := L0.out wr HO.out.be
      go_wp2_with fail
      refine (do_c a wr HO.out.wide.1 (fun x hx => .inr hx) (HOK.out.to HO.out.be) (fun x hx hn => (HO.out.far (HOK.out.lo x hx hn)).1)).mono ?_
      rintro R w2 ⟨va, rfl, hda, hta⟩
      rw [HR.out]
      rw [HE.out] at hda
      obtain ⟨ga, rfl⟩ := hda.ptr
      have HO2 := Lib.hid (HO.out.s1 hda hta)
      clear hda hta l0 HO
      generalize (fun x => S1 x ∨ wr.heap.size ≤ x) = T1 at *
      generalize (fun x => S2 x ∧ x < wr.heap.size) = T2 at *
      have l0 := L0.out w2 HO2.out.be
      go_wp2_with fail
      refine (their_c a w2 HO2.out.wide.2 (fun x hx => .inr hx) (HOK.out.to HO2.out.be) (fun x hx hn => (HO2.out.far (HOK.out.lo x hx hn)).2)).mono ?_
      rintro R w3 ⟨vb, rfl, hdb, htb⟩
      rw [HR.out]
      rw [HE.out] at hdb
      obtain ⟨gb, rfl⟩ := hdb.ptr
      have HO3 := Lib.hid (HO2.out.s2 hdb htb)
      clear hdb htb l0 HO2
      generalize (fun x => T1 x ∧ x < w2.heap.size) = U1 at *
      generalize (fun x => T2 x ∨ w2.heap.size ≤ x) = U2 at *
      obtain ⟨ro, rcap, hrk⟩ := HO3.out.r.of
      have HRK := Lib.hid hrk
      clear hrk
      have c1 := C1.out w3 HO3.out.be
      go_wp2_with fail
      refine (alike_c a.n w3 HO3.out.d HRK.out HOK.out.n).mono ?_
      rintro R w4 ⟨rfl, hb4⟩
      have HO4 := Lib.hid (HO3.out.new hb4)
      clear hb4 c1 HO3 HRK
      go_wp2
      go_round
      case rel => exact ⟨k + 1, ga, gb, E', by omega, by go_num, rfl, rfl, ⟨U1, U2, HO4.out⟩⟩
      case measure => simp [intOf]; omega
    · have hx : k = l.length := by omega
      have HX := Lib.hid hx
      have i2 : ¬ (k : Int) < (l.length : Int) := by omega
      clear hx
      go_wp2_with fail
      refine (works_c wr).mono ?_
      rintro R w5 ⟨rfl, hb5⟩
      go_wp2
      go_ret
      exact ⟨rfl, HO.out.be.trans (hb5.mono HO.out.be.size)⟩
end Go.Proofs.Ytecchaogpcpooaa
