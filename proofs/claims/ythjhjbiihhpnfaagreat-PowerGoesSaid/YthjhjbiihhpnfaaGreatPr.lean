/- Two of the program's powers in blocks apart; acts put into a row of one's own. -/
import Derived.Test.YthjhjbiihhpnfaaGreatPq
import Derived.Test.YthjhjbiihhpnfaaGreatPs
namespace Go.Proofs.YthjhjbiihhpnfaaGreat
open Go.RowKit
set_option linter.unusedVariables false
set_option linter.unusedSimpArgs false
set_option maxRecDepth 100000

structure TwoP (w0 w : World) (g gd h gr q : Nat) (ko ko2 : Option Addr) (kc kc2 : Nat) (p p' : Pw) (S1 S2 : Nat → Prop) : Prop where
  d : PwC S1 w g (.pointer (some ⟨gd, 0, none⟩)) q ko kc p
  r : PwC S2 w h (.pointer (some ⟨gr, 0, none⟩)) q ko2 kc2 p'
  ap : ∀ x, S1 x → ¬ S2 x
  gh : g ≠ h
  g2 : ¬ S2 g
  h1 : ¬ S1 h
  k1 : ∀ a, ko = some a → p.ks ≠ [] → a.block ≠ h ∧ ¬ S2 a.block
  k2 : ∀ a, ko2 = some a → p'.ks ≠ [] → a.block ≠ g ∧ ¬ S1 a.block
  lo1 : ∀ x, x = g ∨ S1 x → w0.heap.size ≤ x
  lo2 : ∀ x, x = h ∨ S2 x → w0.heap.size ≤ x
  be : Below w0.heap.size w0 w
section
variable {w0 w w1 : World} {g gd h gr q kc kc2 : Nat} {ko ko2 : Option Addr} {p p' pn : Pw} {S1 S2 T1 T2 : Nat → Prop}
/-- Other sets of blocks, that say the same of what is there. -/
theorem TwoP.sets (k : TwoP w0 w g gd h gr q ko ko2 kc kc2 p p' S1 S2) (e1 : ∀ x, x < w.heap.size → (S1 x ↔ T1 x)) (e2 : ∀ x, x < w.heap.size → (S2 x ↔ T2 x)) (ap : ∀ x, w.heap.size ≤ x → T1 x → ¬ T2 x) :
    TwoP w0 w g gd h gr q ko ko2 kc kc2 p p' T1 T2 := by
  have hsz := k.be.size
  have hg := k.d.lt
  have hh := k.r.blk.lt
  refine ⟨k.d.mono e1, k.r.mono e2, fun x hx hn => ?_, k.gh, fun hx => k.g2 ((e2 _ hg).2 hx), fun hx => k.h1 ((e1 _ hh).2 hx), fun a e hn => ⟨(k.k1 a e hn).1, fun hx => (k.k1 a e hn).2 ((e2 _ (k.d.kf a e hn).2).2 hx)⟩, fun a e hn => ⟨(k.k2 a e hn).1, fun hx => (k.k2 a e hn).2 ((e1 _ (k.r.kf a e hn).2).2 hx)⟩, fun x hx => ?_, fun x hx => ?_, k.be⟩
  · by_cases hlt : x < w.heap.size
    · exact k.ap x ((e1 x hlt).2 hx) ((e2 x hlt).2 hn)
    · exact ap x (by omega) hx hn
  · by_cases hlt : x < w.heap.size
    · rcases hx with e | hx
      · exact k.lo1 x (.inl e)
      · exact k.lo1 x (.inr ((e1 x hlt).2 hx))
    · omega
  · by_cases hlt : x < w.heap.size
    · rcases hx with e | hx
      · exact k.lo2 x (.inl e)
      · exact k.lo2 x (.inr ((e2 x hlt).2 hx))
    · omega
theorem TwoP.trim (k : TwoP w0 w g gd h gr q ko ko2 kc kc2 p p' S1 S2) : TwoP w0 w g gd h gr q ko ko2 kc kc2 p p' (fun x => S1 x ∧ x < w.heap.size) (fun x => S2 x ∧ x < w.heap.size) :=
  k.sets (fun x hx => ⟨fun h => ⟨h, hx⟩, fun h => h.1⟩) (fun x hx => ⟨fun h => ⟨h, hx⟩, fun h => h.1⟩) (fun x hx h => by have := h.2; omega)
theorem TwoP.wide1 (k : TwoP w0 w g gd h gr q ko ko2 kc kc2 p p' S1 S2) : TwoP w0 w g gd h gr q ko ko2 kc kc2 p p' (fun x => S1 x ∨ w.heap.size ≤ x) (fun x => S2 x ∧ x < w.heap.size) :=
  k.sets (fun x hx => ⟨fun h => .inl h, fun h => h.elim (fun h => h) (fun h => by omega)⟩) (fun x hx => ⟨fun h => ⟨h, hx⟩, fun h => h.1⟩) (fun x hx _ h => by have := h.2; omega)
theorem TwoP.wide2 (k : TwoP w0 w g gd h gr q ko ko2 kc kc2 p p' S1 S2) : TwoP w0 w g gd h gr q ko ko2 kc kc2 p p' (fun x => S1 x ∧ x < w.heap.size) (fun x => S2 x ∨ w.heap.size ≤ x) :=
  k.sets (fun x hx => ⟨fun h => ⟨h, hx⟩, fun h => h.1⟩) (fun x hx => ⟨fun h => .inl h, fun h => h.elim (fun h => h) (fun h => by omega)⟩) (fun x hx h => by have := h.2; omega)
theorem TwoP.new (k : TwoP w0 w g gd h gr q ko ko2 kc kc2 p p' S1 S2) (hb : Below w.heap.size w w1) : TwoP w0 w1 g gd h gr q ko ko2 kc kc2 p p' S1 S2 :=
  ⟨k.d.new hb, k.r.new hb, k.ap, k.gh, k.g2, k.h1, k.k1, k.k2, k.lo1, k.lo2, k.be.trans (hb.mono k.be.size)⟩
/-- The program's power has acted. -/
theorem TwoP.s1 (k : TwoP w0 w g gd h gr q ko ko2 kc kc2 p p' S1 S2) (hd : PwC S1 w1 g (.pointer (some ⟨gd, 0, none⟩)) q ko kc pn) (hk : pn.ks = p.ks) (ht : Tu (fun x => x = g ∨ S1 x) w w1) : TwoP w0 w1 g gd h gr q ko ko2 kc kc2 pn p' S1 S2 := by
  refine ⟨hd, k.r.tu ht ?_ ?_ ?_, k.ap, k.gh, k.g2, k.h1, fun a e hn => k.k1 a e (hk ▸ hn), k.k2, k.lo1, k.lo2, k.be.trans (ht.below (fun x hx hn => ?_) k.be.size)⟩
  · rintro (e | e)
    · exact k.gh e.symm
    · exact k.h1 e
  · rintro a e hn (e' | e')
    · exact (k.k2 a e hn).1 e'
    · exact (k.k2 a e hn).2 e'
  · rintro x _ hs (e | e)
    · exact k.g2 (e ▸ hs)
    · exact k.ap x e hs
  · have := k.lo1 x hn; omega
theorem TwoP.s2 (k : TwoP w0 w g gd h gr q ko ko2 kc kc2 p p' S1 S2) (hr : PwC S2 w1 h (.pointer (some ⟨gr, 0, none⟩)) q ko2 kc2 pn) (hk : pn.ks = p'.ks) (ht : Tu (fun x => x = h ∨ S2 x) w w1) : TwoP w0 w1 g gd h gr q ko ko2 kc kc2 p pn S1 S2 := by
  refine ⟨k.d.tu ht ?_ ?_ ?_, hr, k.ap, k.gh, k.g2, k.h1, k.k1, fun a e hn => k.k2 a e (hk ▸ hn), k.lo1, k.lo2, k.be.trans (ht.below (fun x hx hn => ?_) k.be.size)⟩
  · rintro (e | e)
    · exact k.gh e
    · exact k.g2 e
  · rintro a e hn (e' | e')
    · exact (k.k1 a e hn).1 e'
    · exact (k.k1 a e hn).2 e'
  · rintro x _ hs (e | e)
    · exact k.h1 (e ▸ hs)
    · exact k.ap x hs e
  · have := k.lo2 x hn; omega
end

def fl (l : List Act3) : List Act3 := l.filter isW
def cs3 (l : List Act3) : List Value := (l.map fun a => a.cs.toList).flatten
theorem cs3_app (l : List Act3) (a : Act3) : cs3 (l ++ [a]) = cs3 l ++ a.cs.toList := by simp [cs3]
theorem cs3_at : ∀ (l : List Act3) (j i : Nat) (hj : j < l.length) (v : Value), ((l[j]'hj).cs)[i]? = some v → (cs3 l)[j * 3 + i]? = some v
  | a :: r, 0, i, _, v, h => by
    have hi : i < 3 := by obtain ⟨hi, _⟩ := Array.getElem?_eq_some_iff.1 h; simpa [Act3.cs] using hi
    have e : cs3 (a :: r) = a.cs.toList ++ cs3 r := rfl
    rw [e, List.getElem?_append_left (by simp [Act3.cs]; omega), Nat.zero_mul, Nat.zero_add, Array.getElem?_toList]
    exact h
  | a :: r, j + 1, i, hj, v, h => by
    have ih := cs3_at r j i (by simpa using hj) v h
    have e : cs3 (a :: r) = a.cs.toList ++ cs3 r := rfl
    have hl : a.cs.toList.length = 3 := rfl
    rw [e, List.getElem?_append_right (by rw [hl]; omega), hl, show (j + 1) * 3 + i - 3 = j * 3 + i by omega]
    exact ih
theorem row_acs {w : World} {B : Nat} {v : Value} {l : List Act3} (h : w.ownsRow B 37 3 v l.length (cs3 l)) (hok : ∀ a ∈ l, a.ok) :
    ∃ lo cap, v = .slice lo l.length cap ∧ Acs3 w lo l ∧ (∀ a, lo = some a → B ≤ a.block ∧ a.block < w.heap.size) ∧ l.length ≤ cap := by
  have hc := fun g (e : v.ownBlock = some g) => World.ownsRow.cells (g := g) h e
  have hlt := fun g (e : v.ownBlock = some g) => h.lt g e
  rcases h.2 with ⟨rfl, h0⟩ | ⟨b, cap, cur, rfl, _, _, hcap⟩
  · obtain rfl : l = [] := List.eq_nil_of_length_eq_zero h0
    exact ⟨none, 0, rfl, fun j hj => (by cases hj), fun a e => (by cases e), Nat.le_refl _⟩
  · refine ⟨_, _, rfl, fun j hj => ⟨b, 0, rfl, fun i v hv => ?_, hok _ (List.getElem_mem hj)⟩, fun a e => (by cases e; exact hlt b rfl), hcap.1⟩
    have := hc b rfl (j * 3 + i) v (cs3_at l j i hj v hv)
    rw [show (⟨b, 0 + j * 3 + i, none⟩ : Addr) = (⟨b, 0, none⟩ : Addr).add (j * 3 + i) from by simp [Addr.add, Nat.add_assoc]]
    exact this
theorem Acs3.take {w : World} {ao : Option Addr} {l : List Act3} (h : Acs3 w ao l) (n : Nat) : Acs3 w ao (l.take n) := fun j hj => by
  have hj2 : j < l.length := by rw [List.length_take] at hj; omega
  obtain ⟨b, o, e, hc, hk⟩ := h j hj2
  have : (l.take n)[j]'hj = l[j]'hj2 := List.getElem_take
  rw [this]
  exact ⟨b, o, e, hc, hk⟩
theorem keep_first {w : World} {ko : Option Addr} {ks : List Int} (hi : Ints w ko ks) : (ks.length = 0 ∧ oddK ks = false) ∨ ∃ k0 b o, ko = some ⟨b, o, none⟩ ∧ 0 < ks.length ∧ w.cell? ⟨b, o, none⟩ = some (.int .i64 k0) ∧ oddK ks = (k0 % 2 == 1) := by
  rcases ks with _ | ⟨k, r⟩
  · exact .inl ⟨rfl, rfl⟩
  · obtain ⟨b, o, e, hc, _⟩ := first_odd hi
    exact .inr ⟨k, b, o, e, by simp, hc, odd_mod k r⟩
theorem fl_snoc (l : List Act3) {k : Nat} (hk : k < l.length) : fl (l.take (k + 1)) = if isW (l[k]'hk) then fl (l.take k) ++ [l[k]'hk] else fl (l.take k) := by
  unfold fl
  rw [List.take_succ_eq_append_getElem hk, List.filter_append, List.filter_cons, List.filter_nil]
  split <;> simp
theorem info_act3 : (Tryz.prog.info? 37).map (fun i => (i.zero, i.size, i.bytes)) = some (some (.agg #[.int .u8 0, .string ⟨#[]⟩, .string ⟨#[]⟩]), 3, 40) := by kernel_rfl
attribute [local go_sem ↓] ld_act3
set_option maxHeartbeats 8000000 in
theorem law_cuts (f : Nat) (ko2 : Option Addr) (ks : List Int) (kc2 : Nat) (l : List Act3) (lo : Option Addr) (cap : Nat) (w : World) (hf : f < 256) (hi : Ints w ko2 ks) (hkl : ks.length ≤ maxLen) (hki : ∀ a, ko2 = some a → ks ≠ [] → a.block < w.heap.size) (hA : Acs3 w lo l) (hl : l.length ≤ maxLen) :
    Calls Tryz.prog 4 #[.int .u8 f, .slice ko2 ks.length kc2, .slice lo l.length cap] w fun E w' => E = .returned (.bool true) ∧ Below w.heap.size w w' := by
  obtain ⟨i0, hi0, hz0, hz1, hz2⟩ := Go.info_parts info_act3
  have HI0 := Lib.hid hi0
  have HZ0 := Lib.hid hz0
  have HZ1 := Lib.hid hz1
  have HZ2 := Lib.hid hz2
  have hnot : ∀ (x : Bool) (w : World), (Op.unary .not (.bool x)).run Tryz.prog w = .ok (.bool (!x)) w := fun _ _ => rfl
  have HI := Lib.hid hi
  have HKI := Lib.hid hki
  have HA := Lib.hid hA
  have HL := Lib.hid hl
  simp only [maxLen] at hkl
  clear hi hki hA hl hi0 hz0 hz1 hz2
  go_enter Tryz.func4, Tryz.ntmps4
  go_wp2_with fail
  refine (few3_c w HA.out HL.out).mono ?_
  rintro R w1 ⟨rfl, rfl | ⟨rfl, h80⟩⟩
  · go_wp2_with fail
    refine (awake_c w).mono ?_
    rintro R w5 ⟨rfl, hb5⟩
    go_wp2
    go_ret
    exact ⟨rfl, hb5⟩
  by_cases hk20 : 20 < ks.length
  · go_wp2_with fail
    refine (awake_c w).mono ?_
    rintro R w5 ⟨rfl, hb5⟩
    go_wp2
    go_ret
    exact ⟨rfl, hb5⟩
  have h80' := Lib.hid h80
  have hlm : l.length < 9223372036854775808 := by omega
  clear h80
  go_wp2
  go_loopw [8, 7] (fun i v wr => ∃ k : Nat, k ≤ l.length ∧ i = .int .i64 k ∧ Hid (wr.ownsRow w.heap.size 37 3 v (fl (l.take k)).length (cs3 (fl (l.take k)))) ∧ Hid (Below w.heap.size w wr)) (fun i _ _ => l.length - (intOf i).toNat)
  case atStart => exact ⟨0, Nat.zero_le _, rfl, World.ownsRow_nil _ _ _ _, Below.refl _ _⟩
  case round =>
    obtain ⟨k, hk, rfl, HR, HB⟩ := hrel
    by_cases hlt : k < l.length
    · have i2 : (k : Int) < (l.length : Int) := by omega
      have HLT := Lib.hid hlt
      obtain ⟨b, o, rfl, hok, L0'⟩ := acs3_one HA.out hlt
      have hsn := Lib.hid (fl_snoc l hlt)
      have hln : Hid ((fl (l.take k)).length ≤ k) := by
        show _ ≤ k
        have h1 := List.length_filter_le isW (l.take k)
        rw [List.length_take] at h1
        unfold fl
        omega
      generalize l[k]'hlt = a at *
      generalize fl (l.take k) = lk at *
      obtain ⟨lk1, hlk1⟩ : ∃ lk1, fl (l.take (k + 1)) = lk1 := ⟨_, rfl⟩
      rw [hlk1] at hsn
      have HLK := Lib.hid hlk1
      have HOK := Lib.hid hok
      have L0 := Lib.hid L0'
      have l0 := L0.out wr HB.out
      clear hok L0' hlk1
      go_wp2_with fail
      refine (writes_c a wr HOK.out).mono ?_
      rintro R w2 ⟨rfl, hb2⟩
      have HB2 := Lib.hid (HB.out.trans (hb2.mono HB.out.size))
      have HR2 := Lib.hid (row_tu HR.out (.new (S := fun _ => False) hb2) (fun _ _ h => h))
      clear l0 hb2 HB HR
      have l0 := L0.out w2 HB2.out
      cases hw : isW a
      · have HS2 : Hid (lk1 = lk) := by have := hsn.out; rw [hw] at this; exact this
        clear hw hsn l0
        go_wp2
        go_round
        case rel => exact ⟨k + 1, HLT.out, by go_num, by rw [HLK.out, HS2.out]; exact HR2.out, HB2.out⟩
        case measure => have h9 := HLT.out; simp [intOf]; omega
      · have HS2 : Hid (lk1 = lk ++ [a]) := by have := hsn.out; rw [hw] at this; exact this
        clear hw hsn
        unfold Act3.cs at l0
        have hb3 := below_alloc w2 (.cells #[.int .u8 (a.c : Int), .string (str a.n), .string (str a.t)] 37)
        have hrow := Lib.hid (row_tu HR2.out (.new (S := fun _ => False) hb3) (fun _ _ h => h))
        have hcel : Hid (∀ j u, [Value.int .u8 (a.c : Int), .string (str a.n), .string (str a.t)][j]? = some u → (w2.alloc (.cells #[.int .u8 (a.c : Int), .string (str a.n), .string (str a.t)] 37)).cell? ((⟨w2.heap.size, 0, none⟩ : Addr).add j) = some u) := fun j u hj => by
          rw [show ((⟨w2.heap.size, 0, none⟩ : Addr).add j) = ⟨w2.heap.size, j, none⟩ from by simp [Addr.add]; exact fun h => h.symm, (Cells.made w2 _ _).cell]
          rw [← Array.getElem?_toList]
          exact hj
        have HB3 := Lib.hid (HB2.out.trans (hb3.mono HB2.out.size))
        clear hb3 HR2
        go_wp2_with (at_builtin; refine wpList_append_own _ rfl (.tmp 35) (.tmp 40) 23 rfl w.heap.size 37 i0 (.agg #[.int .u8 0, .string ⟨#[]⟩, .string ⟨#[]⟩]) 3 40 Tryz.underlying23 HI0.out HZ0.out HZ1.out HZ2.out rfl (by decide) _ _ _ rfl hrow.out ⟨w2.heap.size, 0, none⟩ 1 1 [.int .u8 (a.c : Int), .string (str a.n), .string (str a.t)] rfl rfl hcel.out ?qc3 ?qc4 ?qc5 ?qc6 ?_)
        case qc3 => intro u hu; simp at hu; rcases hu with rfl | rfl | rfl <;> rfl
        case qc4 => have h1 := hln.out; have h2 := h80'.out; unfold maxLen; omega
        case qc5 => have h1 := hln.out; have h2 := h80'.out; omega
        case qc6 => exact HB3.out.size
        intro v' w4 hown hgrow hnil
        have hlk : (lk ++ [a]).length = lk.length + 1 := by simp
        have HR4 : Hid (w4.ownsRow w.heap.size 37 3 v' lk1.length (cs3 lk1)) := by
          show World.ownsRow ..
          rw [HS2.out, hlk, cs3_app]
          exact hown
        have HB4 : Hid (Below w.heap.size w w4) := HB3.out.grown hgrow HB3.out.size (fun x hx => (hrow.out.lt x hx).1)
        clear hown hgrow hnil hlk l0
        go_wp2
        go_round
        case rel => exact ⟨k + 1, HLT.out, by go_num, by rw [HLK.out]; exact HR4.out, HB4.out⟩
        case measure => have h9 := HLT.out; simp [intOf]; omega
    · have hx : k = l.length := by omega
      have i2 : ¬ (k : Int) < (l.length : Int) := by omega
      subst hx
      rw [List.take_length] at HR
      obtain ⟨la, hla⟩ : ∃ la, fl l = la := ⟨_, rfl⟩
      rw [hla] at HR
      have hlal : la.length ≤ 80 := by
        have h1 := List.length_filter_le isW l
        have h2 := h80'.out
        unfold fl at hla
        rw [hla] at h1
        omega
      have hlok : ∀ x ∈ la, x.ok := fun x hx => by
        rw [← hla] at hx
        obtain ⟨j, hj, rfl⟩ := List.getElem_of_mem (List.mem_filter.1 hx).1
        obtain ⟨_, _, _, _, ho⟩ := HA.out j hj
        exact ho
      have hlw : ∀ x ∈ la, isW x = true := fun x hx => by
        rw [← hla] at hx
        exact (List.mem_filter.1 hx).2
      obtain ⟨ao, ac, rfl, hacs, hab, hcap⟩ := row_acs HR.out hlok
      have AC := Lib.hid hacs
      have AB := Lib.hid hab
      have LW := Lib.hid hlw
      clear hacs hab hlw hlok hla HR hlt hk
      obtain ⟨n, hn⟩ : ∃ n : Nat, f % 90 = n := ⟨_, rfl⟩
      have hn90 : n < 90 := by omega
      have hfn : (f : Int) % 90 = (n : Int) := by rw [← hn]; rfl
      clear hn
      go_wp2_with fail
      refine (new_c 5000 wr).mono ?_
      rintro R w1 ⟨hb1, ⟨_, _, v, rfl, hd1⟩ | ⟨hbad, _⟩⟩
      rotate_left
      · omega
      obtain ⟨gd, rfl⟩ := hd1.ptr1
      have hd1' : DkS (fun x => wr.heap.size ≤ x) w1 (.pointer (some ⟨gd, 0, none⟩)) 5000 [] := hd1
      have D1 := Lib.hid (hd1'.mono (S' := fun x => wr.heap.size ≤ x ∧ x < w1.heap.size) (fun x hx hs => ⟨hs, hx⟩))
      have B1 := Lib.hid hb1
      clear hd1 hd1' hb1
      go_wp2_with fail
      refine (new_c 5000 w1).mono ?_
      rintro R w2 ⟨hb2, ⟨_, _, v, rfl, hd2⟩ | ⟨hbad, _⟩⟩
      rotate_left
      · omega
      obtain ⟨ge, rfl⟩ := hd2.ptr1
      have hd2' : DkS (fun x => w1.heap.size ≤ x) w2 (.pointer (some ⟨ge, 0, none⟩)) 5000 [] := hd2
      have D2 := Lib.hid (hd2'.mono (S' := fun x => w1.heap.size ≤ x ∧ x < w2.heap.size) (fun x hx hs => ⟨hs, hx⟩))
      have D1' := Lib.hid (D1.out.new hb2)
      have S2' := Lib.hid hb2.size
      have B2 := Lib.hid (B1.out.trans (hb2.mono B1.out.size))
      clear hd2 hd2' hb2 D1
      go_wp2_with fail
      refine (pnew_c n ko2 ks kc2 w2 D1'.out (HI.out.tu (S := fun _ => False) (.new (HB.out.trans (B2.out.mono HB.out.size))) (fun _ _ h => h)) (by omega)).mono ?_
      rintro R w3 ⟨g, kp, cp, rfl, hg, hkp, hp3, hb3⟩
      have P3 := Lib.hid (hp3.mono (S' := fun x => wr.heap.size ≤ x ∧ x < w1.heap.size) (fun x hx => ⟨fun h => h.1, fun h => ⟨h, Nat.lt_of_lt_of_le h.2 S2'.out⟩⟩))
      have D3 := Lib.hid (D2.out.new hb3)
      have B3 := Lib.hid (B2.out.trans (hb3.mono B2.out.size))
      have G3 := Lib.hid hg
      have KP := Lib.hid hkp
      have S3' := Lib.hid hb3.size
      clear hg hkp hp3 hb3 D1' D2
      go_wp2_with fail
      refine (pnew_c (-1) ko2 ks kc2 w3 D3.out (HI.out.tu (S := fun _ => False) (.new (HB.out.trans (B3.out.mono HB.out.size))) (fun _ _ h => h)) (by omega)).mono ?_
      rintro R w4 ⟨h, kq, cq, rfl, hh, hkq, hq4, hb4⟩
      have K4 : Hid (TwoP wr w4 g gd h ge 5000 kp kq cp cq ⟨n, ks, 0, false, []⟩ ⟨-1, ks, 0, false, []⟩ (fun x => wr.heap.size ≤ x ∧ x < w1.heap.size) (fun x => w1.heap.size ≤ x ∧ x < w2.heap.size)) := by
        have s1 := B1.out.size
        have s2 := S2'.out
        have s3 := S3'.out
        have s4 := hb4.size
        have g3 := G3.out
        have gl := P3.out.lt
        refine ⟨P3.out.new hb4, hq4.mono (fun x hx => ⟨fun h => h.1, fun h => ⟨h, by have := h.2; omega⟩⟩), fun x hx hn => ?_, by omega, fun hx => ?_, fun hx => ?_, fun a e hn => ⟨?_, fun hx => ?_⟩, fun a e hn => ⟨?_, fun hx => ?_⟩, fun x hx => ?_, fun x hx => ?_, B3.out.trans (hb4.mono B3.out.size)⟩
        · have := hx.2; have := hn.1; omega
        · have := hx.2; omega
        · have := hx.2; omega
        · have := (P3.out.kf a e hn).2; omega
        · have := KP.out a e hn; have := hx.2; omega
        · have := hkq a e hn; omega
        · have := hkq a e hn; have := hx.2; omega
        · rcases hx with hx | hx
          · omega
          · exact hx.1
        · rcases hx with hx | hx
          · omega
          · have := hx.1; omega
      clear hh hkq hq4 hb4 P3 D3 B3 G3 KP S2' S3' B1 B2
      have K5 := Lib.hid K4.out.wide1
      have hr1 := Lib.hid (run_c la ao ac w4 K5.out.d (fun x hx => .inr hx) (AC.out.to K4.out.be) (fun a e hlt hx => by have h1 := AB.out a e; have h2 := K5.out.lo1 _ hx; omega) (by show 0 + la.length < 1000000; omega))
      go_wp2_with fail
      refine hr1.out.mono ?_
      rintro R w5 ⟨rfl, hp5, ht5⟩
      have K6 := Lib.hid (K5.out.s1 hp5 (runP_ks _ _ _) ht5)
      clear hp5 ht5 hr1 K5 K4
      have K7 := Lib.hid K6.out.wide2
      clear K6
      by_cases hcut : la.length ≤ n
      · have hge : (la.length : Int) ≤ (n : Int) := by omega
        have e1 : runP 5000 la ⟨n, ks, 0, false, []⟩ = ⟨n, ks, la.length, false, foldE 5000 la []⟩ := by
          rw [runP_on 5000 la _ rfl LW.out (.inr (by show ((0 + la.length : Nat) : Int) ≤ (n : Int); omega))]
          simp
        have e2 : runP 5000 la ⟨-1, ks, 0, false, []⟩ = ⟨-1, ks, la.length, false, foldE 5000 la []⟩ := by
          rw [runP_on 5000 la _ rfl LW.out (.inl (by show (-1 : Int) < ((0 : Nat) : Int); omega))]
          simp
        have hr2 := Lib.hid (run_c la ao ac w5 K7.out.r (fun x hx => .inr hx) (AC.out.to K7.out.be) (fun a e hlt hx => by have h1 := AB.out a e; have h2 := K7.out.lo2 _ hx; omega) (by show 0 + la.length < 1000000; omega))
        go_wp2_with fail
        refine hr2.out.mono ?_
        rintro R w6 ⟨rfl, hp6, ht6⟩
        have hk8 := K7.out.s2 hp6 (runP_ks _ _ _) ht6
        rw [e1, e2] at hk8
        have K8 := Lib.hid hk8
        clear hp6 ht6 hr2 K7 hk8 e1 e2
        go_wp2_with fail
        refine (pdown_c w6 K8.out.d).mono ?_
        rintro R w7 ⟨rfl, rfl⟩
        dsimp only
        go_wp2_with fail
        refine (pwrites_c w6 K8.out.d).mono ?_
        rintro R w7 ⟨rfl, rfl⟩
        dsimp only
        go_wp2_with fail
        refine (same3_c w6 K8.out.d.dk K8.out.r.dk).mono ?_
        rintro R w7 ⟨rfl, hb7⟩
        have B7 := Lib.hid ((HB.out.trans (K8.out.be.mono HB.out.size)).trans (hb7.mono (HB.out.trans (K8.out.be.mono HB.out.size)).size))
        clear hb7
        go_wp2_with fail
        refine (awake_c w7).mono ?_
        rintro R w8 ⟨rfl, hb8⟩
        go_wp2
        go_ret
        exact ⟨rfl, B7.out.trans (hb8.mono B7.out.size)⟩
      · have hlt : n < la.length := by omega
        have hge : ¬ (la.length : Int) ≤ (n : Int) := by omega
        have hcut0 := Lib.hid (runP_cut 5000 n ks la hlt LW.out)
        obtain ⟨d, hd⟩ : ∃ d : Nat, n + 1 = d := ⟨_, rfl⟩
        have hdi : (n : Int) + 1 = (d : Int) := by omega
        have hdl : d ≤ la.length := by omega
        rw [hd] at hcut0
        have HD := Lib.hid hd
        have HLT := Lib.hid hlt
        have HCAP := Lib.hid hcap
        clear hd hcut hlt hcap
        have hdn : (0 : Int) ≤ (n : Int) := by omega
        have hdd : (0 : Int) ≤ (d : Int) := by omega
        obtain ⟨ks0, hks0⟩ : ∃ k : List Int, k = ks := ⟨_, rfl⟩
        rw [← hks0] at hcut0 K7
        have hkf := keep_first (HI.out.tu (S := fun _ => False) (.new (HB.out.trans (K7.out.be.mono HB.out.size))) (fun _ _ h => h))
        rw [← hks0] at hkf
        obtain ⟨m, hm⟩ : ∃ m, ks.length = m := ⟨_, rfl⟩
        rw [hm]
        rw [hks0, hm] at hkf
        rw [← hks0] at hkf
        rcases hkf with ⟨rfl, ho⟩ | ⟨k0, kb, kof, rfl, hm1, ck, hodd⟩
        · clear hm
          have hdc : (n : Int) ≤ (ac : Int) := by have h1 := HCAP.out; have h2 := HLT.out; omega
          have hle : n ≤ la.length := by have h2 := HLT.out; omega
          have hlen : (la.take n).length = n := by rw [List.length_take]; omega
          have hr2 := run_c (la.take n) ao ac w5 K7.out.r (fun x hx => .inr hx) ((AC.out.to K7.out.be).take n) (fun a e hlt hx => by have h1 := AB.out a e; have h2 := K7.out.lo2 _ hx; omega) (by show 0 + (la.take n).length < 1000000; omega)
          have e2 : runP 5000 (la.take n) ⟨-1, ks0, 0, false, []⟩ = ⟨-1, ks0, n, false, foldE 5000 (la.take n) []⟩ := by
            rw [runP_on 5000 (la.take n) _ rfl (fun a ha => LW.out a (List.mem_of_mem_take ha)) (.inl (by show (-1 : Int) < ((0 : Nat) : Int); omega)), hlen]
            simp
          rw [hlen] at hr2
          have HR2 := Lib.hid hr2
          have E2 := Lib.hid e2
          have HC2 : Hid (runP 5000 la ⟨n, ks0, 0, false, []⟩ = ⟨n, ks0, d, true, aCrash ks0 (foldE 5000 (la.take n) [])⟩) := by
            have := hcut0.out
            rw [ho] at this
            exact this
          clear hr2 e2 hlen hle hcut0 ho
          go_wp2_with fail
          refine HR2.out.mono ?_
          rintro R w6 ⟨rfl, hp6, ht6⟩
          have hk8 := K7.out.s2 hp6 (runP_ks _ _ _) ht6
          rw [HC2.out, E2.out] at hk8
          have K8 := Lib.hid hk8
          clear hp6 ht6 HR2 K7 hk8 HC2 E2
          go_wp2_with fail
          refine (blow_c w6 K8.out.r).mono ?_
          rintro R w7 ⟨rfl, hp7, ht7⟩
          have hk9 := K8.out.s2 hp7 (blow_ks _) ht7
          rw [blow_on (p := ⟨-1, ks0, n, false, foldE 5000 (la.take n) []⟩) rfl] at hk9
          have K9 := Lib.hid hk9
          clear hp7 ht7 hk9 K8
          go_wp2_with fail
          refine (pdown_c w7 K9.out.d).mono ?_
          rintro R w8 ⟨rfl, rfl⟩
          dsimp only
          go_wp2_with fail
          refine (pwrites_c w7 K9.out.d).mono ?_
          rintro R w8 ⟨rfl, rfl⟩
          dsimp only
          go_wp2_with fail
          refine (same3_c w7 K9.out.d.dk K9.out.r.dk).mono ?_
          rintro R w8 ⟨rfl, hb8⟩
          have B8 := Lib.hid ((HB.out.trans (K9.out.be.mono HB.out.size)).trans (hb8.mono (HB.out.trans (K9.out.be.mono HB.out.size)).size))
          clear hb8
          go_wp2_with fail
          refine (awake_c w8).mono ?_
          rintro R w9 ⟨rfl, hb9⟩
          go_wp2
          go_ret
          exact ⟨rfl, B8.out.trans (hb9.mono B8.out.size)⟩
        · have hba := bits_and_one k0
          have hmi : (0 : Int) < (m : Int) := by omega
          clear hm
          by_cases h1 : k0 % 2 = 1
          · have ho : oddK ks0 = true := by rw [hodd]; simp [h1]
            rw [h1] at hba
            clear hodd h1
            have hdc : (d : Int) ≤ (ac : Int) := by have h1 := HCAP.out; have h2 := HLT.out; omega
            have hle : d ≤ la.length := by have h2 := HLT.out; omega
            have hlen : (la.take d).length = d := by rw [List.length_take]; omega
            have hr2 := run_c (la.take d) ao ac w5 K7.out.r (fun x hx => .inr hx) ((AC.out.to K7.out.be).take d) (fun a e hlt hx => by have h1 := AB.out a e; have h2 := K7.out.lo2 _ hx; omega) (by show 0 + (la.take d).length < 1000000; omega)
            have e2 : runP 5000 (la.take d) ⟨-1, ks0, 0, false, []⟩ = ⟨-1, ks0, d, false, foldE 5000 (la.take d) []⟩ := by
              rw [runP_on 5000 (la.take d) _ rfl (fun a ha => LW.out a (List.mem_of_mem_take ha)) (.inl (by show (-1 : Int) < ((0 : Nat) : Int); omega)), hlen]
              simp
            rw [hlen] at hr2
            have HR2 := Lib.hid hr2
            have E2 := Lib.hid e2
            have HC2 : Hid (runP 5000 la ⟨n, ks0, 0, false, []⟩ = ⟨n, ks0, d, true, aCrash ks0 (foldE 5000 (la.take d) [])⟩) := by
              have := hcut0.out
              rw [ho] at this
              exact this
            clear hr2 e2 hlen hle hcut0 ho
            go_wp2_with fail
            refine HR2.out.mono ?_
            rintro R w6 ⟨rfl, hp6, ht6⟩
            have hk8 := K7.out.s2 hp6 (runP_ks _ _ _) ht6
            rw [HC2.out, E2.out] at hk8
            have K8 := Lib.hid hk8
            clear hp6 ht6 HR2 K7 hk8 HC2 E2
            go_wp2_with fail
            refine (blow_c w6 K8.out.r).mono ?_
            rintro R w7 ⟨rfl, hp7, ht7⟩
            have hk9 := K8.out.s2 hp7 (blow_ks _) ht7
            rw [blow_on (p := ⟨-1, ks0, d, false, foldE 5000 (la.take d) []⟩) rfl] at hk9
            have K9 := Lib.hid hk9
            clear hp7 ht7 hk9 K8
            go_wp2_with fail
            refine (pdown_c w7 K9.out.d).mono ?_
            rintro R w8 ⟨rfl, rfl⟩
            dsimp only
            go_wp2_with fail
            refine (pwrites_c w7 K9.out.d).mono ?_
            rintro R w8 ⟨rfl, rfl⟩
            dsimp only
            go_wp2_with fail
            refine (same3_c w7 K9.out.d.dk K9.out.r.dk).mono ?_
            rintro R w8 ⟨rfl, hb8⟩
            have B8 := Lib.hid ((HB.out.trans (K9.out.be.mono HB.out.size)).trans (hb8.mono (HB.out.trans (K9.out.be.mono HB.out.size)).size))
            clear hb8
            go_wp2_with fail
            refine (awake_c w8).mono ?_
            rintro R w9 ⟨rfl, hb9⟩
            go_wp2
            go_ret
            exact ⟨rfl, B8.out.trans (hb9.mono B8.out.size)⟩
          · have ho : oddK ks0 = false := by rw [hodd]; simp [h1]
            have h0 : k0 % 2 = 0 := by omega
            rw [h0] at hba
            clear hodd h1 h0
            have hdc : (n : Int) ≤ (ac : Int) := by have h1 := HCAP.out; have h2 := HLT.out; omega
            have hle : n ≤ la.length := by have h2 := HLT.out; omega
            have hlen : (la.take n).length = n := by rw [List.length_take]; omega
            have hr2 := run_c (la.take n) ao ac w5 K7.out.r (fun x hx => .inr hx) ((AC.out.to K7.out.be).take n) (fun a e hlt hx => by have h1 := AB.out a e; have h2 := K7.out.lo2 _ hx; omega) (by show 0 + (la.take n).length < 1000000; omega)
            have e2 : runP 5000 (la.take n) ⟨-1, ks0, 0, false, []⟩ = ⟨-1, ks0, n, false, foldE 5000 (la.take n) []⟩ := by
              rw [runP_on 5000 (la.take n) _ rfl (fun a ha => LW.out a (List.mem_of_mem_take ha)) (.inl (by show (-1 : Int) < ((0 : Nat) : Int); omega)), hlen]
              simp
            rw [hlen] at hr2
            have HR2 := Lib.hid hr2
            have E2 := Lib.hid e2
            have HC2 : Hid (runP 5000 la ⟨n, ks0, 0, false, []⟩ = ⟨n, ks0, d, true, aCrash ks0 (foldE 5000 (la.take n) [])⟩) := by
              have := hcut0.out
              rw [ho] at this
              exact this
            clear hr2 e2 hlen hle hcut0 ho
            go_wp2_with fail
            refine HR2.out.mono ?_
            rintro R w6 ⟨rfl, hp6, ht6⟩
            have hk8 := K7.out.s2 hp6 (runP_ks _ _ _) ht6
            rw [HC2.out, E2.out] at hk8
            have K8 := Lib.hid hk8
            clear hp6 ht6 HR2 K7 hk8 HC2 E2
            go_wp2_with fail
            refine (blow_c w6 K8.out.r).mono ?_
            rintro R w7 ⟨rfl, hp7, ht7⟩
            have hk9 := K8.out.s2 hp7 (blow_ks _) ht7
            rw [blow_on (p := ⟨-1, ks0, n, false, foldE 5000 (la.take n) []⟩) rfl] at hk9
            have K9 := Lib.hid hk9
            clear hp7 ht7 hk9 K8
            go_wp2_with fail
            refine (pdown_c w7 K9.out.d).mono ?_
            rintro R w8 ⟨rfl, rfl⟩
            dsimp only
            go_wp2_with fail
            refine (pwrites_c w7 K9.out.d).mono ?_
            rintro R w8 ⟨rfl, rfl⟩
            dsimp only
            go_wp2_with fail
            refine (same3_c w7 K9.out.d.dk K9.out.r.dk).mono ?_
            rintro R w8 ⟨rfl, hb8⟩
            have B8 := Lib.hid ((HB.out.trans (K9.out.be.mono HB.out.size)).trans (hb8.mono (HB.out.trans (K9.out.be.mono HB.out.size)).size))
            clear hb8
            go_wp2_with fail
            refine (awake_c w8).mono ?_
            rintro R w9 ⟨rfl, hb9⟩
            go_wp2
            go_ret
            exact ⟨rfl, B8.out.trans (hb9.mono B8.out.size)⟩
end Go.Proofs.YthjhjbiihhpnfaaGreat
