/- What the law asks of one text; the chapter's answers; NamesTell, NamesParse, NamesKnown. -/
import Derived.Test.YtggeakngmlhjpaaNd
import Derived.Test.YtggeakngmlhjpaaNe
import Derived.Deep.RegionHeld3
namespace Go.Proofs.Ytggeakngmlhjpaa
open Go.RowKit
set_option linter.unusedVariables false
set_option linter.unusedSimpArgs false
set_option maxRecDepth 20000

theorem ret_bool {a b : Bool} (h : a = b) : Ending.returned (.bool a) = .returned (.bool b) := by rw [h]
/-- 'is', at a text that names just that. -/
theorem is_yes {l : List UInt8} {k n : Nat} {f : Bool} (w : World) (hl : l.length ≤ 9223372036854775807) (h : prs l = (k, n, f, true)) :
    Calls Try.prog 15 #[.string (str l), .int .i64 (k : Int), .int .u64 (n : Int), .bool f] w fun e w' => e = .returned (.bool true) ∧ w = w' := by
  have hc := parse_c l w hl
  rw [h] at hc
  clear h
  go_enter Try.func15, Try.ntmps15
  go_wp2_with fail
  refine hc.mono ?_
  rintro E w1 ⟨rfl, rfl⟩
  go_wp2_with fail
  go_ret
  exact ⟨rfl, rfl⟩
/-- 'no', at a text that names nothing. -/
theorem no_yes {l : List UInt8} (w : World) (hl : l.length ≤ 9223372036854775807) (h : prs l = (0, 0, false, false)) :
    Calls Try.prog 16 #[.string (str l)] w fun e w' => e = .returned (.bool true) ∧ w = w' := by
  have hc := parse_c l w hl
  rw [h] at hc
  clear h
  go_enter Try.func16, Try.ntmps16
  go_wp2_with fail
  refine hc.mono ?_
  rintro E w1 ⟨rfl, rfl⟩
  go_wp2_with fail
  go_ret
  exact ⟨rfl, rfl⟩
theorem works_c (w : World) : Calls Try.prog 7 #[] w fun e w' => e = .returned (.bool true) ∧ Below w.heap.size w w' := by
  have h1 := seg_c 258 w (by decide)
  have t1 := str_is (l := 115 :: hex 258) (m := [115, 48, 48, 48, 48, 48, 48, 48, 48, 48, 48, 48, 48, 48, 49, 48, 50]) (by decide +kernel)
  have h2 := fun w => chk_c 18446744073709551615 w (by decide)
  have t2 := str_is (l := 99 :: hex 18446744073709551615) (m := [99, 102, 102, 102, 102, 102, 102, 102, 102, 102, 102, 102, 102, 102, 102, 102, 102]) (by decide +kernel)
  have h3 := fun w => is_yes (l := [99, 48, 48, 48, 48, 48, 48, 48, 48, 48, 48, 48, 48, 48, 48, 48, 49, 46, 110, 101, 119]) (k := 2) (n := 1) (f := true) w (by decide) (by decide +kernel)
  have h4 := fun w => no_yes (l := [115, 49, 48, 50]) w (by decide) (by decide +kernel)
  generalize str (115 :: hex 258) = s1 at *
  generalize str (99 :: hex 18446744073709551615) = s2 at *
  go_enter Try.func7, Try.ntmps7
  go_wp2_with fail
  refine h1.mono ?_
  rintro E w1 ⟨rfl, hb1⟩
  have HB1 := Lib.hid hb1
  clear hb1
  go_wp2_with fail
  refine (h2 _).mono ?_
  rintro E w2 ⟨rfl, hb2⟩
  have HB2 := Lib.hid (HB1.out.trans (hb2.mono HB1.out.size))
  clear hb2
  go_wp2_with fail
  refine (h3 _).mono ?_
  rintro E w3 ⟨rfl, rfl⟩
  go_wp2_with fail
  refine (h4 _).mono ?_
  rintro E w3 ⟨rfl, rfl⟩
  go_wp2_with fail
  go_ret
  exact ⟨rfl, HB2.out⟩
theorem law_tell (n f : Nat) (l : List UInt8) (w : World) (hn : n < 18446744073709551616) (hf : f < 18446744073709551616) (hl : l.length ≤ 9223372036854775807) :
    Calls Try.prog 3 #[.int .u64 (n : Int), .int .u64 (f : Int), .string (str l)] w fun e w' => e = .returned (.bool true) ∧ Below w.heap.size w w' := by
  have hsz := str_size l
  have HW := Lib.hid works_c
  by_cases h3 : 3000 < l.length
  · go_enter Try.func3, Try.ntmps3
    go_wp2_with fail
    refine (HW.out _).mono ?_
    rintro E w1 ⟨rfl, hb1⟩
    have HB1 := Lib.hid hb1
    clear hb1
    go_wp2_with fail
    go_ret
    exact ⟨rfl, HB1.out⟩
  have HA : Hid (str l ++ str nw = str (l ++ nw)) := str_append _ _
  have h1 := Lib.hid (fun w => seg_c n w hn)
  have h2 := Lib.hid (fun w => refSeg_c n w hn)
  have h4 := Lib.hid (fun w => chk_c f w hf)
  have h5 := Lib.hid (fun w => refChk_c f w hf)
  have h6 := Lib.hid (fun w => new_c l w (by omega))
  rw [← HA.out, show str nw = ⟨#[46, 110, 101, 119]⟩ from rfl] at h6
  generalize str (115 :: hex n) = s1 at *
  generalize str (99 :: hex f) = s2 at *
  go_enter Try.func3, Try.ntmps3
  go_wp2_with fail
  refine (h1.out _).mono ?_
  rintro E w1 ⟨rfl, hb1⟩
  have HB1 := Lib.hid hb1
  clear hb1
  go_wp2_with fail
  refine (h2.out _).mono ?_
  rintro E w2 ⟨rfl, hb2⟩
  have HB2 := Lib.hid (HB1.out.trans (hb2.mono HB1.out.size))
  clear hb2
  go_wp2_with fail
  refine (h4.out _).mono ?_
  rintro E w3 ⟨rfl, hb3⟩
  have HB3 := Lib.hid (HB2.out.trans (hb3.mono HB2.out.size))
  clear hb3
  go_wp2_with fail
  refine (h5.out _).mono ?_
  rintro E w4 ⟨rfl, hb4⟩
  have HB4 := Lib.hid (HB3.out.trans (hb4.mono HB3.out.size))
  clear hb4
  go_wp2_with fail
  refine (h6.out _).mono ?_
  rintro E w5 ⟨rfl, rfl⟩
  have hno : ¬ (9223372036854775807 < (str l).size + 4) := by rw [hsz]; omega
  go_wp2_with fail
  refine (HW.out _).mono ?_
  rintro E w5 ⟨rfl, hb5⟩
  have HB5 := Lib.hid (HB4.out.trans (hb5.mono HB4.out.size))
  clear hb5
  go_wp2_with fail
  go_ret
  exact ⟨rfl, HB5.out⟩
theorem law_parse (l : List UInt8) (w : World) (hl : l.length ≤ 9223372036854775807) :
    Calls Try.prog 4 #[.string (str l)] w fun e w' => e = .returned (.bool true) ∧ Below w.heap.size w w' := by
  have hsz := str_size l
  have HW := Lib.hid works_c
  by_cases h3 : 3000 < l.length
  · go_enter Try.func4, Try.ntmps4
    go_wp2_with fail
    refine (HW.out _).mono ?_
    rintro E w1 ⟨rfl, hb1⟩
    have HB1 := Lib.hid hb1
    clear hb1
    go_wp2_with fail
    go_ret
    exact ⟨rfl, HB1.out⟩
  have h1 := parse_c l w (by omega)
  have h2 := refParse_c l w (by omega)
  generalize prs l = r at *
  obtain ⟨k, n, f, ok⟩ := r
  go_enter Try.func4, Try.ntmps4
  go_wp2_with fail
  refine h1.mono ?_
  rintro E w1 ⟨rfl, rfl⟩
  go_wp2_with fail
  refine h2.mono ?_
  rintro E w1 ⟨rfl, rfl⟩
  go_wp2_with fail
  refine (HW.out _).mono ?_
  rintro E w1 ⟨rfl, hb1⟩
  have HB1 := Lib.hid hb1
  clear hb1
  go_wp2_with fail
  go_ret
  exact ⟨rfl, HB1.out⟩
set_option maxRecDepth 100000 in
theorem law_known (w : World) : Calls Try.prog 6 #[] w fun e w' => e = .returned (.bool true) ∧ Below w.heap.size w w' := by
  have HW := Lib.hid works_c
  have h1 := Lib.hid (fun w => seg_c 0 w (by decide))
  have t1 := str_is (l := 115 :: hex 0) (m := [115, 48, 48, 48, 48, 48, 48, 48, 48, 48, 48, 48, 48, 48, 48, 48, 48]) (by decide +kernel)
  generalize str (115 :: hex 0) = s1 at *
  have h2 := Lib.hid (fun w => new_c [109, 97, 110, 105, 102, 101, 115, 116] w (by decide))
  have t2 := str_is (l := [109, 97, 110, 105, 102, 101, 115, 116] ++ nw) (m := [109, 97, 110, 105, 102, 101, 115, 116, 46, 110, 101, 119]) (by decide)
  generalize str ([109, 97, 110, 105, 102, 101, 115, 116] ++ nw) = s2 at *
  have h3 := Lib.hid (fun w => is_yes (l := [115, 48, 48, 48, 48, 48, 48, 48, 48, 48, 48, 48, 48, 48, 49, 48, 50]) (k := 1) (n := 258) (f := false) w (by decide) (by decide +kernel))
  have h4 := Lib.hid (fun w => is_yes (l := [109, 97, 110, 105, 102, 101, 115, 116]) (k := 3) (n := 0) (f := false) w (by decide) (by decide +kernel))
  have h5 := Lib.hid (fun w => is_yes (l := [109, 97, 110, 105, 102, 101, 115, 116, 46, 110, 101, 119]) (k := 3) (n := 0) (f := true) w (by decide) (by decide +kernel))
  have h6 := Lib.hid (fun w => no_yes (l := [115, 48, 48, 48, 48, 48, 48, 48, 48, 48, 48, 48, 48, 48, 49, 48, 71]) w (by decide) (by decide +kernel))
  have h7 := Lib.hid (fun w => no_yes (l := [83, 48, 48, 48, 48, 48, 48, 48, 48, 48, 48, 48, 48, 48, 49, 48, 50]) w (by decide) (by decide +kernel))
  have h8 := Lib.hid (fun w => no_yes (l := [109, 97, 110, 105, 102, 101, 115, 116, 46, 110, 101, 119, 46, 110, 101, 119]) w (by decide) (by decide +kernel))
  have h9 := Lib.hid (fun w => no_yes (l := []) w (by decide) (by decide +kernel))
  have h10 := Lib.hid (fun w => no_yes (l := [46, 110, 101, 119]) w (by decide) (by decide +kernel))
  have h11 := Lib.hid (fun w => no_yes (l := [115, 48, 48, 48, 48, 48, 48, 48, 48, 48, 48, 48, 48, 48, 48, 49, 48, 50]) w (by decide) (by decide +kernel))
  have h12 := Lib.hid (fun w => no_yes (l := [115, 48, 48, 48, 48, 48, 48, 48, 48, 48, 48, 48, 48, 48, 49, 48, 65]) w (by decide) (by decide +kernel))
  have h13 := Lib.hid (fun w => no_yes (l := [100, 48, 48, 48, 48, 48, 48, 48, 48, 48, 48, 48, 48, 48, 49, 48, 50]) w (by decide) (by decide +kernel))
  have h14 := Lib.hid (fun w => no_yes (l := [115, 43, 48, 48, 48, 48, 48, 48, 48, 48, 48, 48, 48, 48, 48, 48, 49]) w (by decide) (by decide +kernel))
  go_enter Try.func6, Try.ntmps6
  go_wp2_with fail
  refine (HW.out _).mono ?_
  rintro E w1 ⟨rfl, hb0⟩
  have HB0 := Lib.hid (hb0)
  clear hb0
  go_wp2_with fail
  refine (h1.out _).mono ?_
  rintro E w2 ⟨rfl, hb1⟩
  have HB1 := Lib.hid (HB0.out.trans (hb1.mono HB0.out.size))
  clear hb1
  go_wp2_with fail
  refine (h2.out _).mono ?_
  rintro E w3 ⟨rfl, rfl⟩
  go_wp2_with fail
  refine (h3.out _).mono ?_
  rintro E w4 ⟨rfl, rfl⟩
  go_wp2_with fail
  refine (h4.out _).mono ?_
  rintro E w5 ⟨rfl, rfl⟩
  go_wp2_with fail
  refine (h5.out _).mono ?_
  rintro E w6 ⟨rfl, rfl⟩
  go_wp2_with fail
  refine (h6.out _).mono ?_
  rintro E w7 ⟨rfl, rfl⟩
  go_wp2_with fail
  refine (h7.out _).mono ?_
  rintro E w8 ⟨rfl, rfl⟩
  go_wp2_with fail
  refine (h8.out _).mono ?_
  rintro E w9 ⟨rfl, rfl⟩
  go_wp2_with fail
  refine (h9.out _).mono ?_
  rintro E w10 ⟨rfl, rfl⟩
  go_wp2_with fail
  refine (h10.out _).mono ?_
  rintro E w11 ⟨rfl, rfl⟩
  go_wp2_with fail
  refine (h11.out _).mono ?_
  rintro E w12 ⟨rfl, rfl⟩
  go_wp2_with fail
  refine (h12.out _).mono ?_
  rintro E w13 ⟨rfl, rfl⟩
  go_wp2_with fail
  refine (h13.out _).mono ?_
  rintro E w14 ⟨rfl, rfl⟩
  go_wp2_with fail
  refine (h14.out _).mono ?_
  rintro E w15 ⟨rfl, rfl⟩
  go_wp2_with fail
  refine (HW.out _).mono ?_
  rintro E w16 ⟨rfl, hb15⟩
  have HB15 := Lib.hid (HB1.out.trans (hb15.mono HB1.out.size))
  clear hb15
  go_wp2_with fail
  go_ret
  exact ⟨rfl, HB15.out⟩
end Go.Proofs.Ytggeakngmlhjpaa
