/- The functions of package codec that read, as the walk of the program's text gives them: one contract each. Conditions: the reader lies at a block of its own, and what is left is of 2^40 bytes at most. -/
import Derived.Test.YtbmkmmkebophpaaDoorRows
import Derived.Test.YtbmkmmkebophpaaDoorNum
namespace Go.Proofs.YtbmkmmkebophpaaDoor
open Go.RowKit
set_option linter.unusedVariables false

set_option maxRecDepth 100000 in
theorem len64_8 (w : World) : Calls Tryd.prog 76 #[.int .u64 255] w fun e w' => e = .returned (.int .i64 8) ∧ w = w' := by
  go_enter Tryd.func76, Tryd.ntmps76
  go_wp2
  go_ret
  exact ⟨by kernel_rfl, rfl⟩
theorem width8 (w : World) : Calls Tryd.prog 78 #[] w fun e w' => e = .returned (.int .i64 1) ∧ w = w' := by
  go_enter Tryd.func78, Tryd.ntmps78
  go_wp2_with fail
  refine (len64_8 _).mono ?_
  rintro e w' ⟨rfl, rfl⟩
  go_wp2
  go_ret
  exact ⟨rfl, rfl⟩
set_option maxRecDepth 100000 in
theorem len64_16 (w : World) : Calls Tryd.prog 76 #[.int .u64 65535] w fun e w' => e = .returned (.int .i64 16) ∧ w = w' := by
  go_enter Tryd.func76, Tryd.ntmps76
  go_wp2
  go_ret
  exact ⟨by kernel_rfl, rfl⟩
theorem width16 (w : World) : Calls Tryd.prog 71 #[] w fun e w' => e = .returned (.int .i64 2) ∧ w = w' := by
  go_enter Tryd.func71, Tryd.ntmps71
  go_wp2_with fail
  refine (len64_16 _).mono ?_
  rintro e w' ⟨rfl, rfl⟩
  go_wp2
  go_ret
  exact ⟨rfl, rfl⟩
set_option maxRecDepth 100000 in
theorem len64_32 (w : World) : Calls Tryd.prog 76 #[.int .u64 4294967295] w fun e w' => e = .returned (.int .i64 32) ∧ w = w' := by
  go_enter Tryd.func76, Tryd.ntmps76
  go_wp2
  go_ret
  exact ⟨by kernel_rfl, rfl⟩
theorem width32 (w : World) : Calls Tryd.prog 77 #[] w fun e w' => e = .returned (.int .i64 4) ∧ w = w' := by
  go_enter Tryd.func77, Tryd.ntmps77
  go_wp2_with fail
  refine (len64_32 _).mono ?_
  rintro e w' ⟨rfl, rfl⟩
  go_wp2
  go_ret
  exact ⟨rfl, rfl⟩
set_option maxRecDepth 100000 in
theorem len64_64 (w : World) : Calls Tryd.prog 76 #[.int .u64 18446744073709551615] w fun e w' => e = .returned (.int .i64 64) ∧ w = w' := by
  go_enter Tryd.func76, Tryd.ntmps76
  go_wp2
  go_ret
  exact ⟨by kernel_rfl, rfl⟩
theorem width64 (w : World) : Calls Tryd.prog 68 #[] w fun e w' => e = .returned (.int .i64 8) ∧ w = w' := by
  go_enter Tryd.func68, Tryd.ntmps68
  go_wp2_with fail
  refine (len64_64 _).mono ?_
  rintro e w' ⟨rfl, rfl⟩
  go_wp2
  go_ret
  exact ⟨rfl, rfl⟩

/-- The reader's block: what is left, and the first error. -/
def Rd (w : World) (g : Nat) (l : List UInt8) (e : Int) : Prop := Cells w g 100 #[.string (str l), .int .i64 e] ∧ (e ≠ 0 → l = []) ∧ l.length ≤ 1099511627776
def RdTo (w : World) (g : Nat) (l : List UInt8) (e : Int) (w' : World) : Prop := Rd w' g l e ∧ w.grownBy w' (some g)
theorem rd_c0 {w : World} {g : Nat} {l : List UInt8} {e : Int} (h : Rd w g l e) : w.cell? ⟨g, 0, none⟩ = some (.string (str l)) := by rw [h.1.cell]; rfl
theorem rd_c1 {w : World} {g : Nat} {l : List UInt8} {e : Int} (h : Rd w g l e) : w.cell? ⟨g, 1, none⟩ = some (.int .i64 e) := by rw [h.1.cell]; rfl
theorem rd_f {w : World} {g : Nat} {l : List UInt8} {e : Int} (h : Rd w g l e) (i : Nat) : w.frozen? ⟨g, i, none⟩ = false := h.1.frozen i
theorem rd_len {w : World} {g : Nat} {l : List UInt8} {e : Int} (h : Rd w g l e) : l.length ≤ 1099511627776 := h.2.2
theorem rd_to {w : World} {g : Nat} {l : List UInt8} {e : Int} (h : Rd w g l e) : RdTo w g l e w := ⟨h, grown_refl w _⟩
theorem rdTo_trans {w w1 w2 : World} {g : Nat} {l l2 : List UInt8} {e e2 : Int} (h : RdTo w g l e w1) (k : RdTo w1 g l2 e2 w2) : RdTo w g l2 e2 w2 := ⟨k.1, h.2.trans k.2⟩

theorem drop_c (g : Nat) (s : ByteArray) (e : Int) (w : World) (hc : w.cell? ⟨g, 0, none⟩ = some (.string s)) (hf : w.frozen? ⟨g, 0, none⟩ = false) :
    Calls Tryd.prog 75 #[.pointer (some ⟨g, 0, none⟩)] w fun E w' => E = .returned (.tuple #[]) ∧ w.setCell ⟨g, 0, none⟩ (.string (str [])) = w' := by
  go_enter Tryd.func75, Tryd.ntmps75
  go_wp2
  go_end0
  exact ⟨rfl, rfl⟩

theorem fail_c (g : Nat) (l : List UInt8) (e c : Int) (w : World) (h : Rd w g l e) :
    Calls Tryd.prog 65 #[.pointer (some ⟨g, 0, none⟩), .int .i64 c] w fun E w' => E = .returned (.tuple #[]) ∧ RdTo w g [] (fin e c) w' := by
  have c0 := rd_c0 h
  have c1 := rd_c1 h
  have f0 := rd_f h 0
  have f1 := rd_f h 1
  by_cases he : e = 0
  · have hb : (e == 0) = true := beq_iff_eq.2 he
    have HE := Lib.hid he
    clear he
    go_enter Tryd.func65, Tryd.ntmps65
    go_wp2_with fail
    refine (drop_c g (str l) e _ (by go_simp) (by go_simp)).mono ?_
    rintro E w' ⟨rfl, rfl⟩
    go_wp2
    go_end0
    refine ⟨rfl, ⟨?_, fun _ => rfl, by simp⟩, (grown_set w g 1 _).trans (grown_set _ g 0 _)⟩
    have := (h.1.set 1 (.int .i64 c)).set 0 (.string (str []))
    simpa [fin, HE.out] using this
  · have hb : (e == 0) = false := beq_eq_false_iff_ne.2 he
    have HE := Lib.hid he
    clear he
    go_enter Tryd.func65, Tryd.ntmps65
    go_wp2_with fail
    refine (drop_c g (str l) e _ (by go_simp) (by go_simp)).mono ?_
    rintro E w' ⟨rfl, rfl⟩
    go_wp2
    go_end0
    refine ⟨rfl, ⟨?_, fun _ => rfl, by simp⟩, grown_set w g 0 _⟩
    have := h.1.set 0 (.string (str []))
    simpa [fin, HE.out] using this

theorem cut_yes (g n : Nat) (l : List UInt8) (e : Int) (w : World) (h : Rd w g l e) (hn : n ≤ l.length) :
    Calls Tryd.prog 79 #[.pointer (some ⟨g, 0, none⟩), .int .u64 n] w fun E w' => E = .returned (.tuple #[.string (str (l.take n)), .bool true]) ∧ w.setCell ⟨g, 0, none⟩ (.string (str (l.drop n))) = w' := by
  have c0 := rd_c0 h
  have f0 := rd_f h 0
  have hl := rd_len h
  have hs := str_size l
  rw [← str_cut l n, ← str_rest l n]
  go_enter Tryd.func79, Tryd.ntmps79
  go_wp2
  go_ret2
  exact ⟨rfl, rfl⟩
theorem cut_no (g n : Nat) (l : List UInt8) (e : Int) (w : World) (h : Rd w g l e) (hn : l.length < n) :
    Calls Tryd.prog 79 #[.pointer (some ⟨g, 0, none⟩), .int .u64 n] w fun E w' => E = .returned (.tuple #[.string (str []), .bool false]) ∧ w = w' := by
  have c0 := rd_c0 h
  have f0 := rd_f h 0
  have hl := rd_len h
  have hs := str_size l
  go_enter Tryd.func79, Tryd.ntmps79
  go_wp2
  go_ret2
  exact ⟨rfl, rfl⟩

theorem take_c (g n : Nat) (l : List UInt8) (e : Int) (w : World) (h : Rd w g l e) :
    Calls Tryd.prog 72 #[.pointer (some ⟨g, 0, none⟩), .int .u64 n] w fun E w' => E = .returned (.string (str (tk n l).val)) ∧ RdTo w g (tk n l).rest (fin e (tk n l).err) w' := by
  unfold tk
  by_cases hn : n ≤ l.length
  · rw [if_pos hn]
    go_enter Tryd.func72, Tryd.ntmps72
    go_wp2_with fail
    refine (cut_yes g n l e _ h hn).mono ?_
    rintro E w' ⟨rfl, rfl⟩
    go_wp2
    go_ret
    refine ⟨rfl, ⟨?_, fun he => by have := h.2.1 (by simpa [fin_zero] using he); simp [this], by have := h.2.2; simp; omega⟩, grown_set w g 0 _⟩
    have := h.1.set 0 (.string (str (l.drop n)))
    simpa [fin_zero] using this
  · rw [if_neg hn]
    go_enter Tryd.func72, Tryd.ntmps72
    go_wp2_with fail
    refine (cut_no g n l e _ h (by omega)).mono ?_
    rintro E w' ⟨rfl, rfl⟩
    go_wp2_with fail
    refine (fail_c g l e 10 _ h).mono ?_
    rintro E w' ⟨rfl, hw⟩
    go_wp2
    go_ret
    exact ⟨rfl, hw⟩
theorem take_nil (n : Nat) (w : World) :
    Calls Tryd.prog 72 #[.pointer none, .int .u64 n] w fun E w' => E = .returned (.string (str [])) ∧ w = w' := by
  go_enter Tryd.func72, Tryd.ntmps72
  go_wp2
  go_ret
  exact ⟨rfl, rfl⟩
end Go.Proofs.YtbmkmmkebophpaaDoor
