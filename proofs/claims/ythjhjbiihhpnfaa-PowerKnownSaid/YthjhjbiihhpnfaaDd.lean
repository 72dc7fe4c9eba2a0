/- A file found by its name; what is asked of it; Sync. -/
import Derived.Test.YthjhjbiihhpnfaaDc
import Derived.Lib.ConvBytes
import Derived.Lib.BufferRead
namespace Go.Proofs.Ythjhjbiihhpnfaa
open Go.RowKit
set_option linter.unusedVariables false
set_option maxRecDepth 100000

theorem find_nil (v : Value) (n : List UInt8) (w : World) (h : NilD w v) :
    Calls Try.prog 29 #[v, .string (str n)] w fun E w' => E = .returned (.tuple #[.pointer none, .int .i64 1]) ∧ Below w.heap.size w w' := by
  have h1 := h.new (below_alloc w (.cells #[.string (str n)] 9))
  go_enter Try.func29, Try.ntmps29
  go_wp2_with fail
  refine (check_nil v _ _ h1).mono ?_
  rintro E w1 ⟨rfl, rfl⟩
  go_wp2
  go_ret2
  exact ⟨rfl, below_alloc w _⟩
theorem chk_one (n : List UInt8) : chk [n] = if isNm n then 0 else 2 := by simp [chk]
/-- What find answers: the file's block, or nil and why. -/
theorem find_c {gd m q : Nat} {fs : List Fil} (n : List UInt8) (w : World) (h : Dk w gd m q fs) (hn : n.length ≤ maxLen) :
    Calls Try.prog 29 #[.pointer (some ⟨gd, 0, none⟩), .string (str n)] w fun E w' =>
      E = .returned (.tuple #[.pointer (if isNm n then (fndK Fil.nm n fs).map fun f => ⟨f.g, 0, none⟩ else none), .int .i64 (eFind (fs.map Fil.ent) n)]) ∧ Below w.heap.size w w' := by
  have hb := below_alloc w (.cells #[.string (str n)] 9)
  have hd := h.new hb
  have hc := check_c 1 [n] _ hd (nms_one w n hn) (by simp)
  have hl := look_c hd.toDj n hn
  have hE : Hid (eFind (fs.map Fil.ent) n = if isNm n then (if (fndK Fil.nm n fs).isSome then 0 else 5) else 2) := by
    show _ = _
    unfold eFind
    rw [ent_map]
    cases fndK Fil.nm n fs <;> rfl
  rw [hE.out]
  clear hE
  have c1 : (w.alloc (.cells #[.string (str n)] 9)).cell? ⟨gd, 1, none⟩ = some (.map (some m)) := by rw [hd.blk.cell]; rfl
  rw [chk_one] at hc
  cases hq : isNm n with
  | false =>
    rw [hq] at hc
    simp only [Bool.false_eq_true, ite_false] at hc ⊢
    go_enter Try.func29, Try.ntmps29
    go_wp2_with fail
    refine hc.mono ?_
    rintro E w1 ⟨rfl, rfl⟩
    go_wp2
    go_ret2
    exact ⟨rfl, hb⟩
  | true =>
    rw [hq] at hc
    simp only [ite_true] at hc ⊢
    have HB := Lib.hid hb
    cases hf : fndK Fil.nm n fs with
    | none =>
      rw [hf] at hl
      simp only [Option.map_none, Option.isSome_none, Bool.false_eq_true, ite_false] at hl ⊢
      clear hf h hd hb
      go_enter Try.func29, Try.ntmps29
      go_wp2_with fail
      refine hc.mono ?_
      rintro E w1 ⟨rfl, rfl⟩
      go_wp2
      go_ret2
      exact ⟨rfl, HB.out⟩
    | some f =>
      rw [hf] at hl
      simp only [Option.map_some, Option.isSome_some, ite_true] at hl ⊢
      clear hf h hd hb
      go_enter Try.func29, Try.ntmps29
      go_wp2_with fail
      refine hc.mono ?_
      rintro E w1 ⟨rfl, rfl⟩
      go_wp2
      go_ret2
      exact ⟨rfl, HB.out⟩
theorem row_str {w : World} {B cap : Nat} {ao : Option Addr} {bs : List UInt8} (ho : w.ownsRow B 5 1 (.slice ao bs.length cap) bs.length (bvs bs)) :
    (convert 65 9 (.slice ao bs.length cap)).run Try.prog w = .ok (.string (str bs)) w := by
  rcases ho.2 with ⟨he, h0⟩ | ⟨g', cap', cur, he, _, hh, _⟩
  · have : bs = [] := List.eq_nil_of_length_eq_zero h0
    subst this
    injection he with e1 e2 e3
    subst e1 e3
    exact Lib.run_convert_nil_bytes w _ _ 5 0 Try.underlying65 Try.underlying5 Try.underlying9
  · injection he with e1 e2 e3
    subst e1 e3
    refine run_convert_bytes_back w _ _ 5 _ _ bs Try.underlying65 Try.underlying5 Try.underlying9 (fun j hj => ?_)
    exact ho.cells (g := g') rfl j _ (by simp [bvs, bv, List.getElem?_eq_getElem hj])
/-- The three ways of a name: none, not there, there. -/
theorem ways {E : List Ent} (fs : List Fil) (hE : fs.map Fil.ent = E) (n : List UInt8) :
    (isNm n = false ∧ eFind E n = 2 ∧ rd E n = [] ∧ sy E n = 0 ∧ aSync E n = E ∧ aRemove E n = E) ∨
    (isNm n = true ∧ fndK Fil.nm n fs = none ∧ fnd n E = none ∧ eFind E n = 5 ∧ rd E n = [] ∧ sy E n = 0 ∧ aSync E n = E) ∨
    (∃ f, isNm n = true ∧ fndK Fil.nm n fs = some f ∧ fnd n E = some f.ent ∧ eFind E n = 0 ∧ rd E n = f.bs ∧ sy E n = f.su) := by
  subst hE
  cases hq : isNm n with
  | false => left; simp [eFind, rd, sy, aSync, aRemove, hq]
  | true =>
    right
    have he := ent_map fs n
    cases hf : fndK Fil.nm n fs with
    | none =>
      rw [hf] at he
      left
      simp [eFind, rd, sy, aSync, hq, he]
    | some f =>
      rw [hf] at he
      right
      exact ⟨f, rfl, rfl, he, by simp [eFind, hq, he], by simp [rd, hq, he, Fil.ent], by simp [sy, hq, he, Fil.ent]⟩
theorem find_two (fs : List Fil) (n : List UInt8) (h : isNm n = false) : (if isNm n then (fndK Fil.nm n fs).map fun f => (⟨f.g, 0, none⟩ : Addr) else none) = none := by rw [h]; rfl
theorem find_five {fs : List Fil} {n : List UInt8} (h0 : isNm n = true) (h : fndK Fil.nm n fs = none) : (if isNm n then (fndK Fil.nm n fs).map fun f => (⟨f.g, 0, none⟩ : Addr) else none) = none := by rw [h0, h]; rfl
theorem find_zero {fs : List Fil} {n : List UInt8} {f : Fil} (h0 : isNm n = true) (h : fndK Fil.nm n fs = some f) : (if isNm n then (fndK Fil.nm n fs).map fun f => (⟨f.g, 0, none⟩ : Addr) else none) = some ⟨f.g, 0, none⟩ := by rw [h0, h]; rfl
theorem read_nil (v : Value) (n : List UInt8) (w : World) (h : NilD w v) :
    Calls Try.prog 13 #[v, .string (str n)] w fun E w' => E = .returned (.tuple #[.string (str []), .int .i64 1]) ∧ Below w.heap.size w w' := by
  go_enter Try.func13, Try.ntmps13
  go_wp2_with fail
  refine (find_nil v n _ h).mono ?_
  rintro E w1 ⟨rfl, hb⟩
  go_wp2
  go_ret2
  exact ⟨rfl, hb⟩
theorem sync_nil (v : Value) (n : List UInt8) (w : World) (h : NilD w v) :
    Calls Try.prog 26 #[v, .string (str n)] w fun E w' => E = .returned (.int .i64 1) ∧ Below w.heap.size w w' := by
  go_enter Try.func26, Try.ntmps26
  go_wp2_with fail
  refine (find_nil v n _ h).mono ?_
  rintro E w1 ⟨rfl, hb⟩
  go_wp2
  go_ret
  exact ⟨rfl, hb⟩
theorem append_nil (v : Value) (n b : List UInt8) (w : World) (h : NilD w v) :
    Calls Try.prog 24 #[v, .string (str n), .string (str b)] w fun E w' => E = .returned (.int .i64 1) ∧ Below w.heap.size w w' := by
  go_enter Try.func24, Try.ntmps24
  go_wp2_with fail
  refine (find_nil v n _ h).mono ?_
  rintro E w1 ⟨rfl, hb⟩
  go_wp2
  go_ret
  exact ⟨rfl, hb⟩
theorem create_nil (v : Value) (n : List UInt8) (w : World) (h : NilD w v) :
    Calls Try.prog 22 #[v, .string (str n)] w fun E w' => E = .returned (.int .i64 1) ∧ Below w.heap.size w w' := by
  have h1 := h.new (below_alloc w (.cells #[.string (str n)] 9))
  go_enter Try.func22, Try.ntmps22
  go_wp2_with fail
  refine (check_nil v _ _ h1).mono ?_
  rintro E w1 ⟨rfl, rfl⟩
  go_wp2
  go_ret
  exact ⟨rfl, below_alloc w _⟩
theorem read_c {S : Nat → Prop} {v : Value} {q : Nat} {E : List Ent} (n : List UInt8) (w : World) (h : DkS S w v q E) (hn : n.length ≤ maxLen) :
    Calls Try.prog 13 #[v, .string (str n)] w fun R w' => R = .returned (.tuple #[.string (str (rd E n)), .int .i64 (eFind E n)]) ∧ Below w.heap.size w w' := by
  obtain ⟨gd, m, fs, rfl, hd, hE, hS⟩ := h
  have hc := find_c n w hd hn
  rw [hE] at hc
  rcases ways fs hE n with ⟨h1, h2, h3, _⟩ | ⟨h1, h2, _, h3, h4, _⟩ | ⟨f, h1, h2, _, h3, h4, _⟩
  · rw [find_two fs n h1, h2] at hc
    rw [h2, h3]
    clear hE hd hS h1 h2 h3
    go_enter Try.func13, Try.ntmps13
    go_wp2_with fail
    refine hc.mono ?_
    rintro E w1 ⟨rfl, hb⟩
    go_wp2
    go_ret2
    exact ⟨rfl, hb⟩
  · rw [find_five h1 h2, h3] at hc
    rw [h3, h4]
    clear hE hd hS h1 h2 h3 h4
    go_enter Try.func13, Try.ntmps13
    go_wp2_with fail
    refine hc.mono ?_
    rintro E w1 ⟨rfl, hb⟩
    go_wp2
    go_ret2
    exact ⟨rfl, hb⟩
  · rw [find_zero h1 h2, h3] at hc
    rw [h3, h4]
    have hf := hd.fil f (fndK_some h2).1
    have HF := Lib.hid hf
    clear hE hd hS h1 h2 h3 h4 hf
    go_enter Try.func13, Try.ntmps13
    go_wp2_with fail
    refine hc.mono ?_
    rintro E w1 ⟨rfl, hb⟩
    have hf1 := HF.out.tu (S := fun _ => False) (.new hb) (fun _ _ h => h)
    have c0 : w1.cell? ⟨f.g, 0, none⟩ = some (.slice f.ao f.bs.length f.cap) := by rw [hf1.blk.cell]; rfl
    have hcv := row_str hf1.row
    go_wp2
    go_ret2
    exact ⟨rfl, hb⟩
/-- New. -/
def NewPost (n : Int) (w : World) (R : Ending) (w' : World) : Prop := Below w.heap.size w w' ∧
  ((1 ≤ n ∧ n ≤ 1048576 ∧ ∃ v, R = .returned v ∧ DkS (fun x => w.heap.size ≤ x) w' v n.toNat []) ∨ ((n < 1 ∨ 1048576 < n) ∧ R = .returned (.pointer none)))
theorem new_c (n : Int) (w : World) : Calls Try.prog 4 #[.int .i64 n] w (NewPost n w) := by
  have hmm := @run_makeMap Try.prog
  by_cases h1 : n < 1
  · go_enter Try.func4, Try.ntmps4
    go_wp2
    go_ret
    exact ⟨Below.refl _ _, .inr ⟨.inl h1, rfl⟩⟩
  by_cases h2 : 1048576 < n
  · go_enter Try.func4, Try.ntmps4
    go_wp2
    go_ret
    exact ⟨Below.refl _ _, .inr ⟨.inr h2, rfl⟩⟩
  obtain ⟨k, rfl⟩ : ∃ k : Nat, n = (k : Int) := ⟨n.toNat, by omega⟩
  go_enter Try.func4, Try.ntmps4
  go_wp2
  go_ret
  refine ⟨(below_alloc w _).trans ((below_alloc _ _).mono (by simp)), .inl ⟨by omega, by omega, _, rfl, w.heap.size + 1, w.heap.size, [], by simp, ⟨⟨?_, ?_, by simp, List.Pairwise.nil⟩, ?_⟩, rfl, ?_⟩⟩
  · have := Cells.made (w.alloc (.map #[] 0)) 57 #[.int .i64 k, .map (some w.heap.size)]
    simpa using this
  · exact (World.ownsMap_made w Try.prog 9 Rf).alloc _
  · exact ⟨by simp; omega, by simp; omega, List.Pairwise.nil, by simp, by simp, by simp, by simp, by simp [used]⟩
  · rintro x (rfl | rfl | ⟨f, hf, _⟩)
    · show w.heap.size ≤ _; omega
    · exact Nat.le_refl _
    · cases hf
end Go.Proofs.Ythjhjbiihhpnfaa
