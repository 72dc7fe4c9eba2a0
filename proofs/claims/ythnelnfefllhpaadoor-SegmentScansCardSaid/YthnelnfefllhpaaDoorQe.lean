/- A record put and taken, by the program: one contract each. Conditions: a text to be taken is of 2^40 bytes at most. -/
import Derived.Test.YthnelnfefllhpaaDoorQd
import Derived.Laws.StructEq
import Derived.ChangeKeysEq
namespace Go.Proofs.YthnelnfefllhpaaDoor
open Go.RowKit
set_option linter.unusedVariables false
set_option linter.unusedSimpArgs false
set_option maxRecDepth 20000

theorem ty_rec : TyA 28 9 := tya_struct Tryd.underlying28 (by kernel_rfl)
theorem ty_rdr : TyA 103 1 := tya_struct Tryd.underlying103 (by kernel_rfl)
theorem ty_prd : TyO 100 := tyo_of Tryd.underlying100 rfl (by kernel_rfl)
theorem ld_rec (v : Value) : Instr.loadAt 28 v = ldT 28 v := rfl
theorem ld_rdr (v : Value) : Instr.loadAt 103 v = ldT 103 v := rfl
theorem ld_prd (v : Value) : Instr.loadAt 100 v = ldT 100 v := rfl
theorem st_rec (p v : Value) : Instr.storeAt 28 p v = stT 28 p v := rfl
theorem st_rdr (p v : Value) : Instr.storeAt 103 p v = stT 103 p v := rfl

theorem legal_c (i : Nat) (w : World) : Calls Tryd.prog 54 #[.int .u8 i] w fun E w' => E = .returned (.bool (decide (i < 64))) ∧ w = w' := by
  go_enter Tryd.func54, Tryd.ntmps54
  go_wp2
  go_ret
  exact ⟨congrArg (fun x => Ending.returned (Value.bool x)) (by simp only [decide_eq_decide]; omega : decide ((i : Int) < 64) = decide (i < 64)), rfl⟩

attribute [local go_sem ↓] ld_rec ld_rdr ld_prd ld_input ld_u8 st_rec st_rdr
theorem low_c (r : Rc) (w : World) (hf : r.fit) :
    Calls Tryd.prog 42 #[.agg (rcs r)] w fun E w' => E = .returned (.bool (lowB r)) ∧ Below w.heap.size w w' := by
  have h8 := hf.y
  have H0 := Loc.one w 28 (rcs r)
  have l2 := H0.ldO ty_input 0 rfl 2 (v := .int .u8 (r.o : Int)) rfl
  have l3 := H0.ldO ty_input 0 rfl 3 (v := .int .u8 (r.p : Int)) rfl
  have l4 := H0.ldO ty_input 0 rfl 4 (v := .int .u8 (r.q : Int)) rfl
  have l8 := H0.ldO ty_u8 0 rfl 8 (v := .int .u8 (r.y : Int)) rfl
  have C1 := fun w => legal_c r.o w
  have C2 := fun w => legal_c r.p w
  have C3 := fun w => legal_c r.q w
  have hy : decide ((r.y : Int) < 2) = decide (r.y < 2) := by simp only [decide_eq_decide]; omega
  unfold lowB
  generalize decide (r.o < 64) = b1 at *
  generalize decide (r.p < 64) = b2 at *
  generalize decide (r.q < 64) = b3 at *
  obtain ⟨b4, hy4⟩ : ∃ b, b = decide (r.y < 2) := ⟨_, rfl⟩
  rw [← hy4] at hy ⊢
  have hyn := hy4.symm
  clear hy4
  have HB := Lib.hid H0.be
  clear H0
  go_enter Tryd.func42, Tryd.ntmps42
  go_upto_region 1 with fail
  generalize w.alloc (.cells (rcs r) 28) = wa at *
  have K1 := Lib.hid (C1 wa)
  have K2 := Lib.hid (C2 wa)
  have K3 := Lib.hid (C3 wa)
  clear C1 C2 C3
  go_wp2_with fail
  refine K1.out.mono ?_
  rintro E w1 ⟨rfl, rfl⟩
  cases b1
  · go_wp2
    go_ret
    exact ⟨rfl, HB.out⟩
  · go_wp2_with fail
    refine K2.out.mono ?_
    rintro E w1 ⟨rfl, rfl⟩
    cases b2
    · go_wp2
      go_ret
      exact ⟨rfl, HB.out⟩
    · go_wp2_with fail
      refine K3.out.mono ?_
      rintro E w1 ⟨rfl, rfl⟩
      cases b3
      · go_wp2
        go_ret
        exact ⟨rfl, HB.out⟩
      · cases b4
        · go_wp2
          go_ret
          exact ⟨rfl, HB.out⟩
        · go_wp2
          go_ret
          exact ⟨rfl, HB.out⟩

theorem pair_in (a b c d : Int) (w : World) : (Op.equalIn 9999 26 (.agg #[.int .u8 a, .int .u8 b]) (.agg #[.int .u8 c, .int .u8 d])).run Tryd.prog w = .ok ((a == c) && (b == d)) w := by
  have h1 : (Tryd.prog.info? 24).map (·.size) = some 1 := by kernel_rfl
  obtain ⟨i, hi, hs⟩ := Option.map_eq_some_iff.1 h1
  rw [run_equalIn_array w 9998 _ _ Tryd.underlying26 hi, show Tryd.prog.cellsOf 24 = 1 by kernel_rfl]
  simp only [show List.range 2 = [0, 1] from rfl, Op.eqItems]
  cases h0 : (a == c) <;> cases h1 : (b == d) <;> simp [go_sem, h0, h1]
theorem re_eql (a b : Rc) (T : TypeId) (hT : T = 28 ∨ T = 33) (w : World) : (binOp .eql T (.agg (rcs a)) (.agg (rcs b))).run Tryd.prog w = .ok (.bool (reB a b)) w := by
  rcases hT with rfl | rfl <;>
  · rw [run_eql_struct]
    unfold reB rcs
    cases h0 : a.k == b.k
    · simp [go_sem, pair_in, h0]
    cases h1 : (a.f : Int) == (b.f : Int)
    · simp [go_sem, pair_in, h0, h1]
    cases h2 : (a.o : Int) == (b.o : Int)
    · simp [go_sem, pair_in, h0, h1, h2]
    cases h3 : (a.p : Int) == (b.p : Int)
    · simp [go_sem, pair_in, h0, h1, h2, h3]
    cases h4 : (a.q : Int) == (b.q : Int)
    · simp [go_sem, pair_in, h0, h1, h2, h3, h4]
    cases h5 : (a.s : Int) == (b.s : Int)
    · simp [go_sem, pair_in, h0, h1, h2, h3, h4, h5]
    cases h6 : (a.i : Int) == (b.i : Int)
    · simp [go_sem, pair_in, h0, h1, h2, h3, h4, h5, h6]
    cases h7 : (a.e : Int) == (b.e : Int)
    · simp [go_sem, pair_in, h0, h1, h2, h3, h4, h5, h6, h7]
    cases h8 : (a.y : Int) == (b.y : Int)
    · simp [go_sem, pair_in, h0, h1, h2, h3, h4, h5, h6, h7, h8]
    · simp [go_sem, pair_in, h0, h1, h2, h3, h4, h5, h6, h7, h8]
theorem re_neq (a b : Rc) (w : World) : (binOp .neq 28 (.agg (rcs a)) (.agg (rcs b))).run Tryd.prog w = .ok (.bool (!reB a b)) w := by
  rw [run_neq_struct]
  have h := re_eql a b _ (.inl rfl) w
  rw [run_eql_struct] at h
  revert h
  cases (Op.equalIn 10000 28 (.agg (rcs a)) (.agg (rcs b))).run Tryd.prog w with
  | ok x w1 => intro h; simp at h ⊢; exact ⟨by rw [h.1], h.2⟩
  | _ => intro h; simp at h
end Go.Proofs.YthnelnfefllhpaaDoor
