/- The document's reader for layer 2: numbers: one contract each. -/
import Derived.Test.YtbmkmmkebophpaaDoorRf
import Derived.Test.YtbmkmmkebophpaaDoorRdD
import Derived.BigQuiet
import Derived.Deep.QuietTactic
namespace Go.Proofs.YtbmkmmkebophpaaDoor
open Go.RowKit
set_option linter.unusedVariables false

/-- The document's reader: its block: the text, how far it was read, the error. -/
def RfC (w : World) (g : Nat) (S : List UInt8) (p : Nat) (e : Int) : Prop := Cells w g 81 #[.string (str S), .int .i64 p, .int .i64 e] ∧ p ≤ S.length ∧ S.length ≤ 1099511627776
def Rf (w : World) (g : Nat) (l : List UInt8) (e : Int) : Prop := ∃ S p, RfC w g S p e ∧ (e = 0 → l = S.drop p) ∧ (e ≠ 0 → l = [])
def RfTo (w : World) (g : Nat) (l : List UInt8) (e : Int) (w' : World) : Prop := Rf w' g l e ∧ w.grownBy w' (some g)
theorem rf_to {w : World} {g : Nat} {l : List UInt8} {e : Int} (h : Rf w g l e) : RfTo w g l e w := ⟨h, grown_refl w _⟩
theorem rfTo_trans {w w1 w2 : World} {g : Nat} {l l2 : List UInt8} {e e2 : Int} (h : RfTo w g l e w1) (k : RfTo w1 g l2 e2 w2) : RfTo w g l2 e2 w2 := ⟨k.1, h.2.trans k.2⟩
section
variable {w : World} {g : Nat} {S : List UInt8} {p : Nat} {e : Int}
theorem rf_c0 (h : RfC w g S p e) : w.cell? ⟨g, 0, none⟩ = some (.string (str S)) := by rw [h.1.cell]; rfl
theorem rf_c1 (h : RfC w g S p e) : w.cell? ⟨g, 1, none⟩ = some (.int .i64 p) := by rw [h.1.cell]; rfl
theorem rf_c2 (h : RfC w g S p e) : w.cell? ⟨g, 2, none⟩ = some (.int .i64 e) := by rw [h.1.cell]; rfl
theorem rf_f (h : RfC w g S p e) (i : Nat) : w.frozen? ⟨g, i, none⟩ = false := h.1.frozen i
end
theorem grown_drewN (w : World) (n : Nat) (r : Option Nat) : w.grownBy (w.drewN n) r := ⟨rfl, rfl, rfl, Nat.le_refl _, fun _ _ _ => rfl⟩

theorem rfc_drewN {w : World} {g : Nat} {S : List UInt8} {p : Nat} {e : Int} (h : RfC w g S p e) (n : Nat) : RfC (w.drewN n) g S p e := h
theorem refFail (g p : Nat) (S : List UInt8) (e c : Int) (w : World) (h : RfC w g S p e) :
    Calls Tryd.prog 67 #[.pointer (some ⟨g, 0, none⟩), .int .i64 c] w fun E w' => E = .returned (.tuple #[]) ∧ RfC w' g S p (fin e c) ∧ w.grownBy w' (some g) := by
  have c2 := rf_c2 h
  have f2 := rf_f h 2
  by_cases he : e = 0
  · have hb : (e == 0) = true := beq_iff_eq.2 he
    have HE := Lib.hid he
    clear he
    go_enter Tryd.func67, Tryd.ntmps67
    go_wp2
    go_end0
    refine ⟨rfl, ⟨?_, h.2⟩, grown_set w g 2 _⟩
    have := h.1.set 2 (.int .i64 c)
    simpa [fin, HE.out] using this
  · have hb : (e == 0) = false := beq_eq_false_iff_ne.2 he
    have HE := Lib.hid he
    clear he
    go_enter Tryd.func67, Tryd.ntmps67
    go_wp2
    go_end0
    exact ⟨rfl, by rw [fin, if_neg HE.out]; exact h, grown_refl w _⟩

theorem un_drop (x : List UInt8) (j : Nat) (hj : j < x.length) : un (x.drop j) = (x[j]'hj).toNat + 256 * un (x.drop (j + 1)) := by
  rw [List.drop_eq_getElem_cons hj, un]
theorem un_drop_lt (x : List UInt8) (j : Nat) (h : x.length - j ≤ 7) : un (x.drop j) < 72057594037927936 := by
  refine Nat.lt_of_lt_of_le (un_lt _) ?_
  rw [List.length_drop]
  exact Nat.pow_le_pow_right (show 0 < 256 from by omega) h
theorem run_idx (S : List UInt8) (q : Nat) (hq : q < S.length) (w : World) : (Instr.index 9 (.string (str S)) (.int .i64 (q : Int))).run Tryd.prog w = .ok (.int .u8 ((S[q]'hq).toNat : Int)) w := by
  rw [run_index_string w _ _ _ _ Tryd.underlying9, dif_pos (by rw [str_size]; omega)]
  congr 1
/-- So many bytes read, from the last one on. -/
def NumBack (x : List UInt8) (n i : Value) : Prop := ∃ j : Nat, j ≤ x.length ∧ i = .int .i64 ((j : Int) - 1) ∧ n = .int .u64 (un (x.drop j))

set_option maxHeartbeats 1000000 in
set_option maxRecDepth 20000 in
theorem refNum_bad (g p k : Nat) (S : List UInt8) (e : Int) (w : World) (h : RfC w g S p e) (hk : k ≤ 8) (he : e ≠ 0) :
    Calls Tryd.prog 50 #[.pointer (some ⟨g, 0, none⟩), .int .i64 k] w fun E w' => E = .returned (.int .u64 0) ∧ RfC w' g S p e ∧ w.grownBy w' (some g) := by
  have c0 := rf_c0 h
  have c1 := rf_c1 h
  have c2 := rf_c2 h
  have hs := str_size S
  have hb : (e != 0) = true := by simp [he]
  have HE := Lib.hid he
  clear he
  go_enter Tryd.func50, Tryd.ntmps50
  go_wp2
  go_quiet (fail)
  go_wp2_with fail
  refine (refFail g p S e 10 _ (rfc_drewN h _)).mono ?_
  rintro E w' ⟨rfl, hw, hg⟩
  go_wp2
  go_ret
  refine ⟨rfl, ?_, (grown_drewN w _ _).trans hg⟩
  rwa [fin, if_neg HE.out] at hw
theorem refNum_torn (g p k : Nat) (S : List UInt8) (w : World) (h : RfC w g S p 0) (hk : k ≤ 8) (ht : S.length < p + k) :
    Calls Tryd.prog 50 #[.pointer (some ⟨g, 0, none⟩), .int .i64 k] w fun E w' => E = .returned (.int .u64 0) ∧ RfC w' g S p 10 ∧ w.grownBy w' (some g) := by
  have c0 := rf_c0 h
  have c1 := rf_c1 h
  have c2 := rf_c2 h
  have hs := str_size S
  have hp := h.2.1
  have hl := h.2.2
  have e1 : IntKind.i64.wrap ((S.length : Int) - (p : Int)) = (S.length : Int) - (p : Int) := IntWalk.i64_in _ (by omega)
  have e2 : decide ((S.length : Int) - (p : Int) < (k : Int)) = true := by simp; omega
  go_enter Tryd.func50, Tryd.ntmps50
  go_wp2
  go_quiet (fail)
  go_wp2_with fail
  refine (refFail g p S 0 10 _ (rfc_drewN h _)).mono ?_
  rintro E w' ⟨rfl, hw, hg⟩
  go_wp2
  go_ret
  exact ⟨rfl, hw, (grown_drewN w _ _).trans hg⟩
theorem refNum_good (g p k : Nat) (S : List UInt8) (w : World) (h : RfC w g S p 0) (hk : k ≤ 8) (ht : p + k ≤ S.length) :
    Calls Tryd.prog 50 #[.pointer (some ⟨g, 0, none⟩), .int .i64 k] w fun E w' => E = .returned (.int .u64 (un ((S.drop p).take k))) ∧ RfC w' g S (p + k) 0 ∧ w.grownBy w' (some g) := by
  have c0 := rf_c0 h
  have c1 := rf_c1 h
  have c2 := rf_c2 h
  have hs := str_size S
  have hp := h.2.1
  have hl := h.2.2
  have e1 : IntKind.i64.wrap ((S.length : Int) - (p : Int)) = (S.length : Int) - (p : Int) := IntWalk.i64_in _ (by omega)
  have e2 : decide ((S.length : Int) - (p : Int) < (k : Int)) = false := by simp; omega
  have hxl : ((S.drop p).take k).length = k := by simp; omega
  go_enter Tryd.func50, Tryd.ntmps50
  go_wp2
  go_quiet (fail)
  go_wp2
  clear e1 e2
  go_loopw [5, 6] (fun n i wr => NumBack ((S.drop p).take k) n i ∧ ∃ nq, wr = w.drewN nq) (fun _ i _ => ((intOf i) + 1).toNat)
  case atStart => exact ⟨⟨k, by omega, rfl, by rw [List.drop_of_length_le (by omega)]; rfl⟩, _, rfl⟩
  case round =>
    obtain ⟨⟨j, hj, rfl, rfl⟩, nq, rfl⟩ := hrel
    by_cases h0 : j = 0
    · subst h0
      have hz : (((0 : Nat) : Int) - 1) = -1 := by omega
      rw [hz]
      have hc := rfc_drewN h nq
      have c0 := rf_c0 hc
      have c1 := rf_c1 hc
      have f1 := rf_f hc 1
      go_wp2
      go_ret
      refine ⟨rfl, ⟨?_, by omega, h.2.2⟩, (grown_drewN w _ _).trans (grown_set _ g 1 _)⟩
      have := hc.1.set 1 (.int .i64 ((p : Int) + (k : Int)))
      simpa using this
    · have hc := rfc_drewN h nq
      have c0 := rf_c0 hc
      have c1 := rf_c1 hc
      have HU := Lib.hid (un_drop ((S.drop p).take k) (j - 1) (by omega))
      have hbn := un_drop_lt ((S.drop p).take k) j (by omega)
      rw [show j - 1 + 1 = j from by omega] at HU
      obtain ⟨q, hq⟩ : ∃ q : Nat, q = p + (j - 1) := ⟨_, rfl⟩
      have hqs : q < S.length := by omega
      have HI := Lib.hid (run_idx S q hqs)
      have HX := Lib.hid (show ((S.drop p).take k)[j - 1]'(by omega) = S[q]'hqs from by simp [hq])
      have e1 : IntKind.i64.wrap ((p : Int) + ((j : Int) - 1)) = (q : Int) := by rw [IntWalk.i64_in _ (by omega)]; omega
      have HQ := Lib.hid hq
      clear hq
      have HHJ := Lib.hid hj
      generalize hN : un (((S.drop p).take k).drop j) = N at *
      have HN := Lib.hid hN
      clear hN
      generalize hb : (S[q]'hqs) = b at *
      have hbb := b.toNat_lt
      have hidx := HI.out
      have e4 : IntKind.u64.wrap (256 * (N : Int)) = 256 * (N : Int) := u64_id _ (by omega) (by omega)
      have e6 : IntKind.u64.wrap (b.toNat : Int) = b.toNat := u64_id _ (by omega) (by omega)
      obtain ⟨M, hM⟩ : ∃ M : Nat, M = b.toNat + 256 * N := ⟨_, rfl⟩
      have e5 : IntKind.u64.wrap (256 * (N : Int) + (b.toNat : Int)) = (M : Int) := by rw [u64_id _ (by omega) (by omega)]; omega
      have HM := Lib.hid hM
      have HB := Lib.hid hb
      clear hM hb hbn
      go_wp2
      go_quiet (fail)
      clear e1 e4 e5 e6 hidx
      go_wp2
      go_roundw
      case rel => exact ⟨⟨j - 1, by have := HHJ.out; omega, by go_num, by rw [HU.out, HX.out, ← HM.out]⟩, _, rfl⟩
      case measure => simp [intOf]; omega

theorem refNum (g k : Nat) (l : List UInt8) (e : Int) (w : World) (h : Rf w g l e) (hk0 : 0 < k) (hk : k ≤ 8) :
    Calls Tryd.prog 50 #[.pointer (some ⟨g, 0, none⟩), .int .i64 k] w fun E w' => E = .returned (.int .u64 (num k l).val) ∧ RfTo w g (num k l).rest (fin e (num k l).err) w' := by
  obtain ⟨S, p, hc, h0, h1⟩ := h
  by_cases he : e = 0
  · subst he
    have hl := h0 rfl
    subst hl
    by_cases ht : p + k ≤ S.length
    · have hn : num k (S.drop p) = ⟨0, un ((S.drop p).take k), (S.drop p).drop k⟩ := by unfold num; rw [if_pos (by simp; omega)]
      rw [hn]
      refine (refNum_good g p k S w hc hk ht).mono ?_
      rintro E w' ⟨rfl, hw, hg⟩
      exact ⟨rfl, ⟨S, p + k, hw, fun _ => by rw [List.drop_drop], fun h => absurd rfl h⟩, hg⟩
    · have hn : num k (S.drop p) = ⟨10, 0, []⟩ := by unfold num; rw [if_neg (by simp; omega)]
      rw [hn]
      refine (refNum_torn g p k S w hc hk (by omega)).mono ?_
      rintro E w' ⟨rfl, hw, hg⟩
      exact ⟨rfl, ⟨S, p, hw, fun h => absurd h (by decide), fun _ => rfl⟩, hg⟩
  · have hl := h1 he
    subst hl
    have hn : num k [] = ⟨10, 0, []⟩ := by unfold num; rw [if_neg (by simp; omega)]
    rw [hn]
    refine (refNum_bad g p k S e w hc hk he).mono ?_
    rintro E w' ⟨rfl, hw, hg⟩
    exact ⟨rfl, ⟨S, p, by rw [fin, if_neg he]; exact hw, fun h => absurd h (by rw [fin, if_neg he]; exact he), fun _ => rfl⟩, hg⟩
end Go.Proofs.YtbmkmmkebophpaaDoor
