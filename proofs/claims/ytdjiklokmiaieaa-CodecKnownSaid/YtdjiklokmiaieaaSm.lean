/- The statements' own small functions of layer 2: vars, reads, nines, works: one contract each. -/
import Derived.Test.YtdjiklokmiaieaaRfD
namespace Go.Proofs.Ytdjiklokmiaieaa
open Go.RowKit
set_option linter.unusedVariables false

theorem str_toList (l : List UInt8) : (str l).toList = l := by rw [ByteArray.toList_eq, str_data]
theorem below_new {w w' : World} {g : Nat} {o : Obj} (h : Below g (w.alloc o) w') (hg : g = w.heap.size) : w.grownBy w' none := by
  subst hg
  exact grown_of_below (((Below.refl w.heap.size w).alloc (Nat.le_refl _) o).trans h)
theorem vars_c (n : Nat) (w : World) (hn : n < 18446744073709551616) :
    Calls Try.prog 35 #[.int .u64 n] w fun E w' => E = .returned (.string (str (vr n))) ∧ w.grownBy w' none := by
  have HN := Lib.hid hn
  clear hn
  go_enter Try.func35, Try.ntmps35
  go_wp2_with fail
  refine (wrVar w.heap.size n [] _ (wr_new w) (by simp) HN.out).mono ?_
  rintro E w1 ⟨rfl, hw1⟩
  go_wp2_with fail
  refine (wrBytes _ _ _ hw1.1).mono ?_
  rintro E w2 ⟨rfl, rfl⟩
  go_wp2
  go_ret
  exact ⟨rfl, below_new hw1.2 rfl⟩
theorem grown_trans_at {w w1 w2 : World} {g : Nat} (h : w.grownBy w1 none) (hg : g = w.heap.size) (k : w1.grownBy w2 (some g)) : w.grownBy w2 none :=
  ⟨k.os.trans h.os, k.tape.trans h.tape, k.output.trans h.output, Nat.le_trans h.size k.size, fun i hi _ => (k.block i (Nat.lt_of_lt_of_le hi h.size) (by simp; omega)).trans (h.block i hi (by simp))⟩
theorem reads_c (l : List UInt8) (n : Nat) (e : Int) (w : World) (hl : l.length ≤ 1099511627776) (hv : vd 0 l = ⟨e, n, []⟩) :
    Calls Try.prog 37 #[.string (str l), .int .u64 n, .int .i64 e] w fun E w' => E = .returned (.bool true) ∧ w.grownBy w' none := by
  have HV := Lib.hid hv
  clear hv
  have hE : (str []).toList.isEmpty = true := by rw [str_toList]; rfl
  go_enter Try.func37, Try.ntmps37
  go_wp2_with fail
  refine (rdNew l _ hl).mono ?_
  rintro E w1 ⟨rfl, hr1, hg1, hz1⟩
  have HZ := Lib.hid hz1
  clear hz1
  go_wp2_with fail
  refine (rdVar _ l 0 _ hr1).mono ?_
  rintro E w2 ⟨rfl, hr2, hg2⟩
  rw [HV.out] at hr2 ⊢
  rw [fin_of] at hr2
  go_wp2_with fail
  refine (rdErr _ _ _ _ hr2).mono ?_
  rintro E w3 ⟨rfl, rfl⟩
  go_wp2_with fail
  refine (rdRest _ _ _ _ hr2).mono ?_
  rintro E w3 ⟨rfl, rfl⟩
  go_wp2
  go_ret
  exact ⟨rfl, grown_trans_at hg1 rfl hg2⟩
theorem none_trans {a b c : World} (h : a.grownBy b none) (k : b.grownBy c none) : a.grownBy c none := h.trans k
theorem works_bytes : (str ((([] ++ le 1 1) ++ le 2 258) ++ le 4 1 ++ le 4 4294967294)).toList = [1, 2, 1, 1, 0, 0, 0, 254, 255, 255, 255] := by
  rw [str_toList]; decide +kernel
theorem vr_300 : (str (vr 300)).toList = [172, 2] := by rw [str_toList]; decide +kernel
set_option maxHeartbeats 1000000 in
theorem works_c (w : World) :
    Calls Try.prog 9 #[] w fun E w' => E = .returned (.bool true) ∧ w.grownBy w' none := by
  have h300 := vr_300
  have hbs := works_bytes
  go_enter Try.func9, Try.ntmps9
  go_wp2_with fail
  refine (wrU8 w.heap.size 1 [] _ (wr_new w) (by simp) (by decide)).mono ?_
  rintro E w1 ⟨rfl, hw1⟩
  go_wp2_with fail
  refine (wrU16 w.heap.size 258 _ _ hw1.1 (by simp [le]) (by decide)).mono ?_
  rintro E w2 ⟨rfl, hw2⟩
  have HW2 := Lib.hid (wrTo_trans hw1 hw2)
  go_wp2_with fail
  refine (wrU32 w.heap.size 1 _ _ hw2.1 (by simp [le]) (by decide)).mono ?_
  rintro E w3 ⟨rfl, hw3⟩
  have HW3 := Lib.hid (wrTo_trans HW2.out hw3)
  go_wp2_with fail
  refine (wrI32 w.heap.size 4294967294 (-2) _ _ hw3.1 (by simp [le]) (by decide) (by decide +kernel)).mono ?_
  rintro E w4 ⟨rfl, hw4⟩
  have HW4 := Lib.hid (wrTo_trans HW3.out hw4)
  go_wp2_with fail
  refine (wrBytes _ _ _ hw4.1).mono ?_
  rintro E w5 ⟨rfl, rfl⟩
  have HG := Lib.hid (below_new HW4.out.2 rfl)
  clear hw1 hw2 hw3 hw4
  go_wp2_with fail
  refine (vars_c 300 _ (by decide)).mono ?_
  rintro E w5 ⟨rfl, hg5⟩
  go_wp2_with fail
  refine (reads_c [172, 2] 300 0 _ (by simp) (by simp [vd])).mono ?_
  rintro E w6 ⟨rfl, hg6⟩
  go_wp2_with fail
  refine (reads_c [128, 0] 0 4 _ (by simp) (by simp [vd])).mono ?_
  rintro E w7 ⟨rfl, hg7⟩
  go_wp2
  go_ret
  exact ⟨rfl, ((HG.out.trans hg5).trans hg6).trans hg7⟩
theorem nines_c (b : UInt8) (w : World) :
    Calls Try.prog 36 #[.int .u8 b.toNat] w fun E w' => E = .returned (.string (str [255, 255, 255, 255, 255, 255, 255, 255, 255, b])) ∧ w.grownBy w' none := by
  have hcv : (convert 26 9 (.slice (some ⟨w.heap.size, 0, none⟩) 1 1)).run Try.prog (w.alloc (.cells #[.int .u8 b.toNat] 5)) = .ok (.string (str [b])) (w.alloc (.cells #[.int .u8 b.toNat] 5)) :=
    run_convert_bytes_back _ _ _ 5 _ _ [b] Try.underlying26 Try.underlying5 Try.underlying9 (fun j hj => by
      have : j = 0 := by simpa using hj
      subst this
      exact cell_one_new _ _ _ 0 _ rfl)
  have hs1 : (str [b]).size = 1 := str_size [b]
  have hap : str [255, 255, 255, 255, 255, 255, 255, 255, 255, b] = str [255, 255, 255, 255, 255, 255, 255, 255, 255] ++ str [b] := by rw [str_append]; rfl
  rw [hap]
  clear hap
  go_enter Try.func36, Try.ntmps36
  go_wp2
  go_ret
  exact ⟨rfl, ⟨rfl, rfl, rfl, by simp, fun k hk _ => Below.heap_alloc _ _ _ hk⟩⟩
end Go.Proofs.Ytdjiklokmiaieaa
