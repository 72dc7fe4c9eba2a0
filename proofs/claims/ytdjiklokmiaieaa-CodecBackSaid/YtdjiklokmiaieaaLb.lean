/- The statement CodecBack of layer 2: the Go function returns true. Conditions: its arguments read as a list of items, a text and a number. -/
import Derived.Test.YtdjiklokmiaieaaLo
namespace Go.Proofs.Ytdjiklokmiaieaa
open Go.RowKit
set_option linter.unusedVariables false

theorem enc_pos (x : Itm) : 0 < (enc x).length := by
  have h1 := (vr_len x.n).1
  have h2 := (vr_len x.s.length).1
  unfold enc
  (repeat' split) <;> simp [le_length, tx] <;> omega
theorem encs_nil {xs : List Itm} (h : (encs xs).length = 0) : xs = [] := by
  cases xs with
  | nil => rfl
  | cons x r =>
    have := enc_pos x
    simp only [encs, List.flatMap_cons, List.length_append] at h
    omega
theorem encs_drop (xs : List Itm) (k : Nat) (h : k < xs.length) : encs (xs.drop k) = enc (xs[k]'h) ++ encs (xs.drop (k + 1)) := by
  unfold encs
  rw [List.drop_eq_getElem_cons h]
  simp only [List.flatMap_cons]
/-- Where a reader of a proper beginning is behind k items. -/
def Torn (xs : List Itm) (k : Nat) (l : List UInt8) (e : Int) : Prop := (e = 0 ∧ ∃ q, q ≠ [] ∧ encs (xs.drop k) = l ++ q) ∨ (e = 10 ∧ l = [])
theorem torn_next {xs : List Itm} {k : Nat} {l : List UInt8} {e : Int} (h : Torn xs k l e) (hk : k < xs.length) (hok : (xs[k]'hk).ok) :
    Torn xs (k + 1) (aft (xs[k]'hk).k l).rest (fin e (aft (xs[k]'hk).k l).err) := by
  rcases h with ⟨rfl, q, hq, he⟩ | ⟨rfl, rfl⟩
  · rw [encs_drop xs k hk] at he
    rcases List.append_eq_append_iff.1 he with ⟨l', h1, h2⟩ | ⟨s', h1, h2⟩
    · rw [h1, aft_enc _ hok]
      exact .inl ⟨rfl, q, hq, h2⟩
    · by_cases hs : s' = []
      · subst hs
        rw [List.append_nil] at h1
        rw [List.nil_append] at h2
        have : l = enc (xs[k]'hk) ++ [] := by rw [List.append_nil, h1]
        rw [this, aft_enc _ hok]
        exact .inl ⟨rfl, q, hq, by rw [List.nil_append]; exact h2.symm⟩
      · rw [aft_cut _ hok h1 hs]
        exact .inr ⟨rfl, rfl⟩
  · rw [aft_nil]
    exact .inr ⟨rfl, rfl⟩
theorem torn_end {xs : List Itm} {l : List UInt8} {e : Int} (h : Torn xs xs.length l e) : e = 10 ∧ l = [] := by
  rcases h with ⟨_, q, hq, he⟩ | h
  · rw [List.drop_length] at he
    simp [encs] at he
    exact absurd he.2 hq
  · exact h
def BackRel1 (W : World) (xs : List Itm) (g : Nat) (i : Value) (wr : World) : Prop :=
  ∃ k : Nat, k ≤ xs.length ∧ i = .int .i64 k ∧ Wr wr g (encs (xs.take k)) ∧ Below g W wr
def BackRel2 (W : World) (B : Nat) (xs : List Itm) (more : List UInt8) (g : Nat) (i : Value) (wr : World) : Prop :=
  ∃ k : Nat, k ≤ xs.length ∧ i = .int .i64 k ∧ Rd wr g (encs (xs.drop k) ++ more) 0 ∧ Below B W wr
def BackRel3 (W : World) (B : Nat) (xs : List Itm) (g : Nat) (i : Value) (wr : World) : Prop :=
  ∃ (k : Nat) (l : List UInt8) (e : Int), k ≤ xs.length ∧ i = .int .i64 k ∧ Rd wr g l e ∧ Torn xs k l e ∧ Below B W wr
set_option maxHeartbeats 4000000 in
set_option maxRecDepth 20000 in
theorem lawBack (w : World) (a : Option Addr) (len cap : Nat) (xs : List Itm) (more : List UInt8) (c : Nat) (h : Items w w.heap.size a len xs) (hml : more.length ≤ maxLen) (hc : c < 65536) :
    Calls Try.prog 5 #[.slice a len cap, .string (str more), .int .u16 c] w fun E w' => E = .returned (.bool true) ∧ Below w.heap.size w w' := by
  have hlen := h.1
  have hll := h.2.1
  subst hlen
  unfold maxLen at hml hll
  have hsm := str_size more
  go_enter Try.func5, Try.ntmps5
  go_wp2_with fail
  refine (few_c w _ a _ cap xs h).mono ?_
  rintro E w1 ⟨⟨b, rfl, hb⟩, rfl⟩
  by_cases hbig : b = false ∨ 1000 < more.length
  · have hcs : b = false ∨ (b = true ∧ 1000 < more.length) := by
      rcases hbig with h | h
      · exact .inl h
      · cases b
        · exact .inl rfl
        · exact .inr ⟨rfl, h⟩
    clear hbig hb
    rcases hcs with rfl | ⟨rfl, hm⟩
    all_goals
      go_wp2_with fail
      refine (works_c _).mono ?_
      rintro E w1 ⟨rfl, hw1⟩
      go_wp2
      go_ret
      exact ⟨rfl, below_of_grown hw1⟩
  · have hbt : b = true := by
      cases b
      · exact absurd (.inl rfl) hbig
      · rfl
    have hm : more.length ≤ 1000 := by omega
    subst hbt
    obtain ⟨h60, h300⟩ := hb rfl
    have H300 := Lib.hid h300
    have H := Lib.hid h
    clear hb h300 h hbig
    have HB0 := Lib.hid ((Below.refl w.heap.size w).alloc (Nat.le_refl _) (.cells #[.slice none 0 0] 28))
    have hwn := wr_new w
    generalize hB : w.heap.size = B at *
    have HBB := Lib.hid hB
    clear hB
    go_wp2
    rw [HBB.out]
    go_loopw [8] (fun i wr => BackRel1 w xs B i wr) (fun i _ => xs.length - (intOf i).toNat)
    case atStart => exact ⟨0, by omega, rfl, hwn, HB0.out⟩
    case round =>
    obtain ⟨k, hk, rfl, hwr, hbel⟩ := hrel
    have hel := encs_take_len xs k h60 H300.out
    by_cases hlt : k < xs.length
    · obtain ⟨b, o, ha, hbB, hx1, hx2, hx3, c0, c1, c2⟩ := (items_below H.out hbel).2.2 k hlt
      subst ha
      have h3 := H300.out k hlt
      have HE := Lib.hid (encs_snoc xs k hlt)
      have HX2 := Lib.hid hx2
      clear hx2 hx3
      generalize hx : xs[k]'hlt = x at *
      have HOK := Lib.hid (show x.ok from ⟨hx1, HX2.out, by omega⟩)
      clear hx
      generalize hbs : encs (xs.take k) = bs at *
      clear hbs
      go_wp2_with fail
      refine (put_c x B bs _ HOK.out hwr (by omega)).mono ?_
      rintro E w1 ⟨rfl, hw1, hb1⟩
      have HB1 := Lib.hid (hbel.trans hb1)
      go_wp2
      go_roundw
      case rel => exact ⟨k + 1, by omega, by go_num, by rw [HE.out]; exact hw1, HB1.out⟩
      case measure => simp [intOf]; omega
    · have hkx : xs.take k = xs := List.take_of_length_le (by omega)
      rw [hkx] at hwr hel
      clear hkx
      have hs1 := str_size (encs xs)
      have hs2 := str_append (encs xs) more
      have hBs := wr_lt hwr
      go_wp2_with fail
      refine (wrBytes _ _ _ hwr).mono ?_
      rintro E w1 ⟨rfl, rfl⟩
      go_wp2_with fail
      refine (rdNew (encs xs ++ more) _ (by rw [List.length_append]; omega)).mono ?_
      rintro E w1 ⟨rfl, hr1, hg1, hz⟩
      have HB1 := Lib.hid (below_none hbel hg1 (by omega))
      have hs3 := hg1.size
      clear hz hwr hbel hg1
      generalize wr.heap.size = g2 at *
      go_wp2
      go_loopw [11] (fun i wr => BackRel2 w B xs more g2 i wr) (fun i _ => xs.length - (intOf i).toNat)
      case atStart => exact ⟨0, by omega, rfl, by simpa using hr1, HB1.out⟩
      case round =>
      obtain ⟨k2, hk2, rfl, hrd, hbel⟩ := hrel
      clear hr1 HB1
      have hrl := hrd.1.lt
      by_cases hlt2 : k2 < xs.length
      · obtain ⟨b, o, ha, hbB, hx1, hx2, hx3, c0, c1, c2⟩ := (items_below H.out hbel).2.2 k2 hlt2
        subst ha
        have h3 := H300.out k2 hlt2
        have HD := Lib.hid (encs_drop xs k2 hlt2)
        have HX2 := Lib.hid hx2
        clear hx2 hx3
        generalize hx : xs[k2]'hlt2 = x at *
        have HOK := Lib.hid (show x.ok from ⟨hx1, HX2.out, by omega⟩)
        clear hx
        rw [HD.out, List.append_assoc] at hrd
        have HA := Lib.hid (aft_enc x HOK.out (encs (xs.drop (k2 + 1)) ++ more))
        go_wp2_with fail
        refine (get_c x g2 _ 0 _ HOK.out hrd).mono ?_
        rintro E w2 ⟨⟨b, rfl, hbt⟩, hr2, hg2⟩
        have hbt2 := hbt ⟨_, rfl⟩
        subst hbt2
        rw [HA.out] at hr2
        have HB2 := Lib.hid (below_at hbel hg2 (by omega) (by omega))
        clear hg2 hbt
        go_wp2
        go_roundw
        case rel => exact ⟨k2 + 1, by omega, by go_num, hr2, HB2.out⟩
        case measure => simp [intOf]; omega
      · have hkd : encs (xs.drop k2) ++ more = more := by rw [List.drop_of_length_le (by omega)]; rfl
        rw [hkd] at hrd
        clear hkd
        have hqm := str_eqv more
        go_wp2_with fail
        refine (rdErr _ _ _ _ hrd).mono ?_
        rintro E w2 ⟨rfl, rfl⟩
        go_wp2_with fail
        refine (rdRest _ _ _ _ hrd).mono ?_
        rintro E w2 ⟨rfl, rfl⟩
        by_cases hz : (encs xs).length = 0
        · have hx0 := encs_nil hz
          have hxl : xs.length = 0 := by rw [hx0]; rfl
          have hz2 : (((encs xs).length : Int) == 0) = true := beq_iff_eq.2 (by omega)
          have hz3 : ((xs.length : Int) == 0) = true := beq_iff_eq.2 (by omega)
          have HZ := Lib.hid hz
          have HXL := Lib.hid hxl
          have HX0 := Lib.hid hx0
          clear hz hxl hx0
          go_wp2_with fail
          refine (works_c _).mono ?_
          rintro E w3 ⟨rfl, hw3⟩
          go_wp2
          go_ret
          exact ⟨rfl, by rw [HBB.out]; exact below_none hbel hw3 (by omega)⟩
        · have hpos : 0 < (encs xs).length := by omega
          have hz2 : (((encs xs).length : Int) == 0) = false := beq_eq_false_iff_ne.2 (by omega)
          clear hz
          obtain ⟨m, hm1⟩ : ∃ m : Nat, m = c % (encs xs).length := ⟨_, rfl⟩
          have hm2 : m < (encs xs).length := by rw [hm1]; exact Nat.mod_lt _ hpos
          have e1 : ((c : Int) % ((encs xs).length : Int)) = (m : Int) := by rw [hm1]; rfl
          clear hm1
          have hex := str_cut (encs xs) m
          have HT := Lib.hid (show encs xs = (encs xs).take m ++ (encs xs).drop m from (List.take_append_drop _ _).symm)
          have HQ := Lib.hid (show (encs xs).drop m ≠ [] from by rw [← List.length_pos_iff, List.length_drop]; omega)
          go_wp2_with fail
          refine (rdNew ((encs xs).take m) _ (by rw [List.length_take]; omega)).mono ?_
          rintro E w3 ⟨rfl, hr3, hg3, hz3⟩
          have HB3 := Lib.hid (below_none hbel hg3 (by omega))
          have hs5 := hg3.size
          clear hz3 hg3 hrd hbel
          generalize wr.heap.size = g3 at *
          clear e1 hex
          go_wp2
          go_loopw [13] (fun i wr => BackRel3 w B xs g3 i wr) (fun i _ => xs.length - (intOf i).toNat)
          case atStart => exact ⟨0, _, 0, by omega, rfl, hr3, .inl ⟨rfl, _, HQ.out, by rw [List.drop_zero]; exact HT.out⟩, HB3.out⟩
          case round =>
          obtain ⟨k3, l, e, hk3, rfl, hrd, htorn, hbel⟩ := hrel
          clear hr3 HB3
          have hrl3 := hrd.1.lt
          have HTN := Lib.hid htorn
          clear htorn
          by_cases hlt3 : k3 < xs.length
          · obtain ⟨b, o, ha, hbB, hx1, hx2, hx3, c0, c1, c2⟩ := (items_below H.out hbel).2.2 k3 hlt3
            subst ha
            have h3 := H300.out k3 hlt3
            have HOK := Lib.hid (show (xs[k3]'hlt3).ok from ⟨hx1, hx2, by omega⟩)
            have HN := Lib.hid (torn_next HTN.out hlt3 HOK.out)
            clear hx2 hx3
            generalize hx : xs[k3]'hlt3 = x at *
            clear hx
            go_wp2_with fail
            refine (get_c x g3 l e _ HOK.out hrd).mono ?_
            rintro E w2 ⟨⟨b, rfl, hbt⟩, hr2, hg2⟩
            have HB2 := Lib.hid (below_at hbel hg2 (by omega) (by omega))
            clear hg2 hbt
            go_wp2
            go_roundw
            case rel => exact ⟨k3 + 1, _, _, by omega, by go_num, hr2, HN.out, HB2.out⟩
            case measure => simp [intOf]; omega
          · have hk4 : k3 = xs.length := by omega
            subst hk4
            obtain ⟨he, hl⟩ := torn_end HTN.out
            subst he hl
            have hnl := nil_toList
            go_wp2_with fail
            refine (rdErr _ _ _ _ hrd).mono ?_
            rintro E w2 ⟨rfl, rfl⟩
            go_wp2_with fail
            refine (rdRest _ _ _ _ hrd).mono ?_
            rintro E w2 ⟨rfl, rfl⟩
            go_wp2_with fail
            refine (works_c _).mono ?_
            rintro E w3 ⟨rfl, hw3⟩
            go_wp2
            go_ret
            exact ⟨rfl, by rw [HBB.out]; exact below_none hbel hw3 (by omega)⟩
end Go.Proofs.Ytdjiklokmiaieaa
