/- The library's HasPrefix, HasSuffix, CutPrefix, CutSuffix, IndexByte here; a digit's number, and what sixteen digits are, both sides'. One contract each. -/
import Derived.Test.YtggeakngmlhjpaaRows
import Derived.WalkKit
import Derived.ProofKit
import Derived.OpenShut
import Derived.Handy
import Derived.Below
import Derived.Lib.Hide
import Derived.Lib.Strings
import Derived.Test.YtggeakngmlhjpaaNa
namespace Go.Proofs.Ytggeakngmlhjpaa
open Go.RowKit
set_option linter.unusedVariables false
set_option linter.unusedSimpArgs false
set_option maxRecDepth 20000

theorem ret_i {k : IntKind} {a b : Int} (h : a = b) : Ending.returned (.int k a) = .returned (.int k b) := by rw [h]
theorem ret_b {a b : Bool} (h : a = b) : Ending.returned (.bool a) = .returned (.bool b) := by rw [h]
theorem two_str {a b : ByteArray} {r : Bool} (h : a = b) : Ending.returned (.tuple #[.string a, .bool r]) = .returned (.tuple #[.string b, .bool r]) := by rw [h]
theorem str_tl (l : List UInt8) : (str l).toList = l := by rw [ByteArray.toList_eq, str_data]
/-! How a beginning and an end of a text are told: by a cut as long as what is asked for. -/
theorem pre_cut (l p : List UInt8) (h : p.length ≤ l.length) : (((str l).extract 0 p.length).toList == (str p).toList) = p.isPrefixOf l := by
  rw [str_cut, str_tl, str_tl, Bool.eq_iff_iff, beq_iff_eq, List.isPrefixOf_iff_prefix, List.prefix_iff_eq_take]
  exact eq_comm
theorem suf_cut (l p : List UInt8) (h : p.length ≤ l.length) : (((str l).extract (l.length - p.length) l.length).toList == (str p).toList) = p.isSuffixOf l := by
  rw [str_rest, str_tl, str_tl, Bool.eq_iff_iff, beq_iff_eq, List.isSuffixOf_iff_suffix, List.suffix_iff_eq_drop]
  exact eq_comm
theorem pre_short {l p : List UInt8} (h : l.length < p.length) : p.isPrefixOf l = false := by
  cases e : p.isPrefixOf l with
  | false => rfl
  | true => have := (List.isPrefixOf_iff_prefix.1 e).length_le; omega
theorem suf_short {l p : List UInt8} (h : l.length < p.length) : p.isSuffixOf l = false := by
  cases e : p.isSuffixOf l with
  | false => rfl
  | true => have := (List.isSuffixOf_iff_suffix.1 e).length_le; omega
theorem pre_le {l p : List UInt8} (h : p.isPrefixOf l = true) : p.length ≤ l.length := (List.isPrefixOf_iff_prefix.1 h).length_le
theorem suf_le {l p : List UInt8} (h : p.isSuffixOf l = true) : p.length ≤ l.length := (List.isSuffixOf_iff_suffix.1 h).length_le
theorem hasPref_c (l p : List UInt8) (w : World) :
    Calls Try.prog 28 #[.string (str l), .string (str p)] w fun e w' => e = .returned (.bool (p.isPrefixOf l)) ∧ w = w' := by
  have hl := str_size l
  have hp := str_size p
  rcases Nat.lt_or_ge l.length p.length with h | h
  · rw [pre_short h]
    go_enter Try.func28, Try.ntmps28
    go_wp2_with fail
    go_ret
    exact ⟨ret_b (by simp), rfl⟩
  · have he := pre_cut l p h
    generalize p.isPrefixOf l = r at *
    go_enter Try.func28, Try.ntmps28
    go_wp2_with fail
    go_ret
    exact ⟨rfl, rfl⟩
theorem hasSuff_c (l p : List UInt8) (w : World) (hm : l.length ≤ 9223372036854775807) :
    Calls Try.prog 25 #[.string (str l), .string (str p)] w fun e w' => e = .returned (.bool (p.isSuffixOf l)) ∧ w = w' := by
  have hl := str_size l
  have hp := str_size p
  rcases Nat.lt_or_ge l.length p.length with h | h
  · rw [suf_short h]
    go_enter Try.func25, Try.ntmps25
    go_wp2_with fail
    go_ret
    exact ⟨ret_b (by simp), rfl⟩
  · have he := suf_cut l p h
    have hd : ((l.length : Int) - (p.length : Int)) = ((l.length - p.length : Nat) : Int) := by omega
    generalize p.isSuffixOf l = r at *
    go_enter Try.func25, Try.ntmps25
    go_wp2_with fail
    go_ret
    exact ⟨rfl, rfl⟩
theorem cutPref0_c (l p : List UInt8) (w : World) :
    Calls Try.prog 26 #[.string (str l), .string (str p)] w fun e w' => e = .returned (.tuple #[.string (str (offP l p)), .bool (p.isPrefixOf l)]) ∧ w = w' := by
  have hl := str_size l
  have hp := str_size p
  have hc := hasPref_c l p w
  have hle := fun h => pre_le (l := l) (p := p) h
  have HX := Lib.hid (str_rest l p.length)
  unfold offP
  generalize p.isPrefixOf l = r at *
  cases r
  · go_enter Try.func26, Try.ntmps26
    go_wp2_with fail
    refine hc.mono ?_
    rintro E w1 ⟨rfl, rfl⟩
    go_wp2_with fail
    go_ret2
    exact ⟨rfl, rfl⟩
  · have hle := hle rfl
    go_enter Try.func26, Try.ntmps26
    go_wp2_with fail
    refine hc.mono ?_
    rintro E w1 ⟨rfl, rfl⟩
    go_wp2_with fail
    go_ret2
    exact ⟨two_str HX.out, rfl⟩
theorem cutSuff0_c (l p : List UInt8) (w : World) (hm : l.length ≤ 9223372036854775807) :
    Calls Try.prog 22 #[.string (str l), .string (str p)] w fun e w' => e = .returned (.tuple #[.string (str (offS l p)), .bool (p.isSuffixOf l)]) ∧ w = w' := by
  have hl := str_size l
  have hp := str_size p
  have hc := hasSuff_c l p w hm
  have hle := fun h => suf_le (l := l) (p := p) h
  have HX := Lib.hid (str_cut l (l.length - p.length))
  unfold offS
  generalize p.isSuffixOf l = r at *
  cases r
  · go_enter Try.func22, Try.ntmps22
    go_wp2_with fail
    refine hc.mono ?_
    rintro E w1 ⟨rfl, rfl⟩
    go_wp2_with fail
    go_ret2
    exact ⟨rfl, rfl⟩
  · have hle := hle rfl
    have hd : ((l.length : Int) - (p.length : Int)) = ((l.length - p.length : Nat) : Int) := by omega
    go_enter Try.func22, Try.ntmps22
    go_wp2_with fail
    refine hc.mono ?_
    rintro E w1 ⟨rfl, rfl⟩
    go_wp2_with fail
    go_ret2
    exact ⟨two_str HX.out, rfl⟩
theorem cutPref_c (l p : List UInt8) (w : World) :
    Calls Try.prog 23 #[.string (str l), .string (str p)] w fun e w' => e = .returned (.tuple #[.string (str (offP l p)), .bool (p.isPrefixOf l)]) ∧ w = w' := by
  have hc := cutPref0_c l p w
  generalize str (offP l p) = s at *
  generalize p.isPrefixOf l = r at *
  go_enter Try.func23, Try.ntmps23
  go_wp2_with fail
  refine hc.mono ?_
  rintro E w1 ⟨rfl, rfl⟩
  go_wp2_with fail
  go_ret2
  exact ⟨rfl, rfl⟩
theorem cutSuff_c (l p : List UInt8) (w : World) (hm : l.length ≤ 9223372036854775807) :
    Calls Try.prog 19 #[.string (str l), .string (str p)] w fun e w' => e = .returned (.tuple #[.string (str (offS l p)), .bool (p.isSuffixOf l)]) ∧ w = w' := by
  have hc := cutSuff0_c l p w hm
  generalize str (offS l p) = s at *
  generalize p.isSuffixOf l = r at *
  go_enter Try.func19, Try.ntmps19
  go_wp2_with fail
  refine hc.mono ?_
  rintro E w1 ⟨rfl, rfl⟩
  go_wp2_with fail
  go_ret2
  exact ⟨rfl, rfl⟩
theorem index_ent (l : List UInt8) (b : UInt8) (w : World) : (callFunc 31 #[.string (str l), .int .u8 (b.toNat : Int)]).run Try.prog w = .ok (.value (.int .i64 (Lib.indexByte l b))) w := by
  rw [run_callFunc_extern Try.func31 (by kernel_rfl) (by kernel_rfl) (by kernel_rfl) (e := Extern.BytealgIndexByte.indexByte) (by kernel_rfl), Lib.run_indexByteString, str_data]
  simp [Result.andThen]
theorem index_c (l : List UInt8) (b : UInt8) (w : World) :
    Calls Try.prog 29 #[.string (str l), .int .u8 (b.toNat : Int)] w fun e w' => e = .returned (.int .i64 (Lib.indexByte l b)) ∧ w = w' := by
  have he := index_ent l b w
  generalize Lib.indexByte l b = r at *
  generalize str l = s at *
  go_enter Try.func29, Try.ntmps29
  go_wp2
  go_ret
  exact ⟨rfl, rfl⟩
/-- A digit's number, by the program. -/
theorem digits_c (b : UInt8) (w : World) :
    Calls Try.prog 29 #[.string (str dgs), .int .u8 (b.toNat : Int)] w fun e w' => e = .returned (.int .i64 (udg b)) ∧ w = w' := by
  have := index_c dgs b w
  rwa [udg_index] at this
/-- The same, by the document. -/
theorem refDigit_c (b : UInt8) (w : World) :
    Calls Try.prog 21 #[.int .u8 (b.toNat : Int)] w fun e w' => e = .returned (.int .i64 (udg b)) ∧ w = w' := by
  unfold udg
  have hb := b.toNat_lt
  generalize b.toNat = n at *
  go_enter Try.func21, Try.ntmps21
  go_wp2
  all_goals go_ret
  all_goals refine ⟨?_, rfl⟩
  all_goals first
    | rfl
    | (refine ret_i (a := (n : Int) - 97 + 10) ?_; omega)
end Go.Proofs.Ytggeakngmlhjpaa
