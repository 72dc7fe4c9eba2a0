/- The document's methods on no disk (nil); their, on nil. -/
import Derived.Test.YtecchaogpcpooaaEk
namespace Go.Proofs.Ytecchaogpcpooaa
open Go.RowKit Go.Shelf
set_option linter.unusedVariables false
set_option linter.unusedSimpArgs false
set_option maxRecDepth 100000

theorem look_nil (n : List UInt8) (w : World) : Calls Try.prog 54 #[.pointer none, .string (str n)] w fun R w' => R = .returned (.tuple #[.int .i64 0, .int .i64 1]) ∧ w = w' := by
  go_enter Try.func54, Try.ntmps54
  go_wp2
  go_ret2
  exact ⟨rfl, rfl⟩
theorem rcreate_nil (n : List UInt8) (w : World) : Calls Try.prog 31 #[.pointer none, .string (str n)] w fun R w' => R = .returned (.int .i64 1) ∧ w = w' := by
  go_enter Try.func31, Try.ntmps31
  go_wp2
  go_ret
  exact ⟨rfl, rfl⟩
theorem rrename_nil (n b : List UInt8) (w : World) : Calls Try.prog 33 #[.pointer none, .string (str n), .string (str b)] w fun R w' => R = .returned (.int .i64 1) ∧ w = w' := by
  go_enter Try.func33, Try.ntmps33
  go_wp2
  go_ret
  exact ⟨rfl, rfl⟩
theorem rused_nil (w : World) : Calls Try.prog 38 #[.pointer none] w fun R w' => R = .returned (.int .i64 0) ∧ w = w' := by
  go_enter Try.func38, Try.ntmps38
  go_wp2
  go_ret
  exact ⟨rfl, rfl⟩
theorem rlist_nil (w : World) : Calls Try.prog 41 #[.pointer none] w fun R w' => R = .returned (.slice none 0 0) ∧ w = w' := by
  go_enter Try.func41, Try.ntmps41
  go_wp2
  go_ret
  exact ⟨rfl, rfl⟩
theorem rcrash_nil (ko : Option Addr) (kl kc : Nat) (w : World) : Calls Try.prog 35 #[.pointer none, .slice ko kl kc] w fun R w' => R = .returned (.tuple #[]) ∧ w = w' := by
  go_enter Try.func35, Try.ntmps35
  go_wp2
  refine bodyPost_ret (results_none rfl _ _ _) rfl ?_
  exact ⟨rfl, rfl⟩
theorem rcopy_nil (w : World) : Calls Try.prog 36 #[.pointer none] w fun R w' => R = .returned (.pointer none) ∧ w = w' := by
  go_enter Try.func36, Try.ntmps36
  go_wp2
  go_ret
  exact ⟨rfl, rfl⟩
theorem rappend_nil (n b : List UInt8) (w : World) : Calls Try.prog 30 #[.pointer none, .string (str n), .string (str b)] w fun R w' => R = .returned (.int .i64 1) ∧ w = w' := by
  go_enter Try.func30, Try.ntmps30
  go_wp2_with fail
  refine (look_nil n w).mono ?_
  rintro R w1 ⟨rfl, rfl⟩
  go_wp2
  go_ret
  exact ⟨rfl, rfl⟩
theorem rsync_nil (n : List UInt8) (w : World) : Calls Try.prog 32 #[.pointer none, .string (str n)] w fun R w' => R = .returned (.int .i64 1) ∧ w = w' := by
  go_enter Try.func32, Try.ntmps32
  go_wp2_with fail
  refine (look_nil n w).mono ?_
  rintro R w1 ⟨rfl, rfl⟩
  go_wp2
  go_ret
  exact ⟨rfl, rfl⟩
theorem rremove_nil (n : List UInt8) (w : World) : Calls Try.prog 34 #[.pointer none, .string (str n)] w fun R w' => R = .returned (.int .i64 1) ∧ w = w' := by
  go_enter Try.func34, Try.ntmps34
  go_wp2_with fail
  refine (look_nil n w).mono ?_
  rintro R w1 ⟨rfl, rfl⟩
  go_wp2
  go_ret
  exact ⟨rfl, rfl⟩
theorem rread_nil (n : List UInt8) (w : World) : Calls Try.prog 37 #[.pointer none, .string (str n)] w fun R w' => R = .returned (.tuple #[.string (str []), .int .i64 1]) ∧ w = w' := by
  go_enter Try.func37, Try.ntmps37
  go_wp2_with fail
  refine (look_nil n w).mono ?_
  rintro R w1 ⟨rfl, rfl⟩
  go_wp2
  go_ret2
  exact ⟨rfl, rfl⟩
theorem rsynced_nil (n : List UInt8) (w : World) : Calls Try.prog 39 #[.pointer none, .string (str n)] w fun R w' => R = .returned (.int .i64 0) ∧ w = w' := by
  go_enter Try.func39, Try.ntmps39
  go_wp2_with fail
  refine (look_nil n w).mono ?_
  rintro R w1 ⟨rfl, rfl⟩
  go_wp2
  go_ret
  exact ⟨rfl, rfl⟩
set_option maxHeartbeats 1000000 in
theorem their_nil (a : Act2) (w : World) (ha : a.ok w) :
    Calls Try.prog 12 #[.pointer none, .agg a.cs] w fun R w' => R = .returned (.tuple #[.pointer none, .int .i64 (actN a : Nat)]) ∧ Below w.heap.size w w' := by
  obtain ⟨k, hk8, hc⟩ : ∃ k, k < 8 ∧ a.c % 8 = k := ⟨_, Nat.mod_lt _ (by decide), rfl⟩
  have hR : Hid (actN a = if k < 6 then 1 else 0) := by show _ = _; unfold actN; rw [hc]
  have hci : (a.c : Int) % 8 = (k : Int) := by rw [← hc]; rfl
  have hcl := ha.c
  clear ha
  have hal : Below w.heap.size w (w.alloc (.cells #[.int .u8 (a.c : Int), .string (str a.n), .string (str a.t), .string (str a.b), .slice a.ko a.ks.length a.kc] 33)) := below_alloc w _
  have HW := Lib.hid hal
  clear hal
  unfold Act2.cs
  have h8 : k = 0 ∨ k = 1 ∨ k = 2 ∨ k = 3 ∨ k = 4 ∨ k = 5 ∨ k = 6 ∨ k = 7 := by omega
  rcases h8 with rfl | rfl | rfl | rfl | rfl | rfl | rfl | rfl
  · rw [hR.out]
    simp only [Nat.reduceLT, ite_true, ite_false]
    clear hR hc hk8
    go_enter Try.func12, Try.ntmps12
    go_wp2_with fail
    refine (rappend_nil a.n a.b _).mono ?_
    rintro R w1 ⟨rfl, rfl⟩
    go_wp2
    go_ret2
    exact ⟨rfl, HW.out⟩
  · rw [hR.out]
    simp only [Nat.reduceLT, ite_true, ite_false]
    clear hR hc hk8
    go_enter Try.func12, Try.ntmps12
    go_wp2_with fail
    refine (rappend_nil a.n a.b _).mono ?_
    rintro R w1 ⟨rfl, rfl⟩
    go_wp2
    go_ret2
    exact ⟨rfl, HW.out⟩
  · rw [hR.out]
    simp only [Nat.reduceLT, ite_true, ite_false]
    clear hR hc hk8
    go_enter Try.func12, Try.ntmps12
    go_wp2_with fail
    refine (rcreate_nil a.n _).mono ?_
    rintro R w1 ⟨rfl, rfl⟩
    go_wp2
    go_ret2
    exact ⟨rfl, HW.out⟩
  · rw [hR.out]
    simp only [Nat.reduceLT, ite_true, ite_false]
    clear hR hc hk8
    go_enter Try.func12, Try.ntmps12
    go_wp2_with fail
    refine (rsync_nil a.n _).mono ?_
    rintro R w1 ⟨rfl, rfl⟩
    go_wp2
    go_ret2
    exact ⟨rfl, HW.out⟩
  · rw [hR.out]
    simp only [Nat.reduceLT, ite_true, ite_false]
    clear hR hc hk8
    go_enter Try.func12, Try.ntmps12
    go_wp2_with fail
    refine (rrename_nil a.n a.t _).mono ?_
    rintro R w1 ⟨rfl, rfl⟩
    go_wp2
    go_ret2
    exact ⟨rfl, HW.out⟩
  · rw [hR.out]
    simp only [Nat.reduceLT, ite_true, ite_false]
    clear hR hc hk8
    go_enter Try.func12, Try.ntmps12
    go_wp2_with fail
    refine (rremove_nil a.n _).mono ?_
    rintro R w1 ⟨rfl, rfl⟩
    go_wp2
    go_ret2
    exact ⟨rfl, HW.out⟩
  · rw [hR.out]
    simp only [Nat.reduceLT, ite_true, ite_false]
    clear hR hc hk8
    go_enter Try.func12, Try.ntmps12
    go_wp2_with fail
    refine (rcrash_nil _ _ _ _).mono ?_
    rintro R w1 ⟨rfl, rfl⟩
    go_wp2
    go_ret2
    exact ⟨rfl, HW.out⟩
  · rw [hR.out]
    simp only [Nat.reduceLT, ite_true, ite_false]
    clear hR hc hk8
    go_enter Try.func12, Try.ntmps12
    go_wp2_with fail
    refine (rcopy_nil _).mono ?_
    rintro R w1 ⟨rfl, rfl⟩
    go_wp2
    go_ret2
    exact ⟨rfl, HW.out⟩
end Go.Proofs.Ytecchaogpcpooaa
