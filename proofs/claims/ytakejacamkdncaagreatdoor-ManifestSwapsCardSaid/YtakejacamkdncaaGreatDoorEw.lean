/- Texts of elder layers, one behind the other. -/
import Derived.Test.YtakejacamkdncaaGreatDoorEz
import Derived.Test.YtakejacamkdncaaGreatDoorDz
/- The document's acts: their. -/
namespace Go.Proofs.YtakejacamkdncaaGreatDoor
open Go.RowKit Go.Shelf
set_option linter.unusedVariables false
set_option linter.unusedSimpArgs false
set_option maxRecDepth 100000

end Go.Proofs.YtakejacamkdncaaGreatDoor
/- The document's methods on no disk (nil); their, on nil. -/
namespace Go.Proofs.YtakejacamkdncaaGreatDoor
open Go.RowKit Go.Shelf
set_option linter.unusedVariables false
set_option linter.unusedSimpArgs false
set_option maxRecDepth 100000

theorem look_nil (n : List UInt8) (w : World) : Calls Tryz.prog 110 #[.pointer none, .string (str n)] w fun R w' => R = .returned (.tuple #[.int .i64 0, .int .i64 1]) ∧ w = w' := by
  go_enter Tryz.func110, Tryz.ntmps110
  go_wp2
  go_ret2
  exact ⟨rfl, rfl⟩
theorem rcreate_nil (n : List UInt8) (w : World) : Calls Tryz.prog 67 #[.pointer none, .string (str n)] w fun R w' => R = .returned (.int .i64 1) ∧ w = w' := by
  go_enter Tryz.func67, Tryz.ntmps67
  go_wp2
  go_ret
  exact ⟨rfl, rfl⟩
theorem rrename_nil (n b : List UInt8) (w : World) : Calls Tryz.prog 70 #[.pointer none, .string (str n), .string (str b)] w fun R w' => R = .returned (.int .i64 1) ∧ w = w' := by
  go_enter Tryz.func70, Tryz.ntmps70
  go_wp2
  go_ret
  exact ⟨rfl, rfl⟩
theorem rused_nil (w : World) : Calls Tryz.prog 21 #[.pointer none] w fun R w' => R = .returned (.int .i64 0) ∧ w = w' := by
  go_enter Tryz.func21, Tryz.ntmps21
  go_wp2
  go_ret
  exact ⟨rfl, rfl⟩
theorem rlist_nil (w : World) : Calls Tryz.prog 19 #[.pointer none] w fun R w' => R = .returned (.slice none 0 0) ∧ w = w' := by
  go_enter Tryz.func19, Tryz.ntmps19
  go_wp2
  go_ret
  exact ⟨rfl, rfl⟩
theorem rcrash_nil (ko : Option Addr) (kl kc : Nat) (w : World) : Calls Tryz.prog 106 #[.pointer none, .slice ko kl kc] w fun R w' => R = .returned (.tuple #[]) ∧ w = w' := by
  go_enter Tryz.func106, Tryz.ntmps106
  go_wp2
  refine bodyPost_ret (results_none rfl _ _ _) rfl ?_
  exact ⟨rfl, rfl⟩
theorem rappend_nil (n b : List UInt8) (w : World) : Calls Tryz.prog 68 #[.pointer none, .string (str n), .string (str b)] w fun R w' => R = .returned (.int .i64 1) ∧ w = w' := by
  go_enter Tryz.func68, Tryz.ntmps68
  go_wp2_with fail
  refine (look_nil n w).mono ?_
  rintro R w1 ⟨rfl, rfl⟩
  go_wp2
  go_ret
  exact ⟨rfl, rfl⟩
theorem rsync_nil (n : List UInt8) (w : World) : Calls Tryz.prog 69 #[.pointer none, .string (str n)] w fun R w' => R = .returned (.int .i64 1) ∧ w = w' := by
  go_enter Tryz.func69, Tryz.ntmps69
  go_wp2_with fail
  refine (look_nil n w).mono ?_
  rintro R w1 ⟨rfl, rfl⟩
  go_wp2
  go_ret
  exact ⟨rfl, rfl⟩
theorem rremove_nil (n : List UInt8) (w : World) : Calls Tryz.prog 71 #[.pointer none, .string (str n)] w fun R w' => R = .returned (.int .i64 1) ∧ w = w' := by
  go_enter Tryz.func71, Tryz.ntmps71
  go_wp2_with fail
  refine (look_nil n w).mono ?_
  rintro R w1 ⟨rfl, rfl⟩
  go_wp2
  go_ret
  exact ⟨rfl, rfl⟩
theorem rread_nil (n : List UInt8) (w : World) : Calls Tryz.prog 75 #[.pointer none, .string (str n)] w fun R w' => R = .returned (.tuple #[.string (str []), .int .i64 1]) ∧ w = w' := by
  go_enter Tryz.func75, Tryz.ntmps75
  go_wp2_with fail
  refine (look_nil n w).mono ?_
  rintro R w1 ⟨rfl, rfl⟩
  go_wp2
  go_ret2
  exact ⟨rfl, rfl⟩
end Go.Proofs.YtakejacamkdncaaGreatDoor
/- alike: two disks of one list; both nil. -/
namespace Go.Proofs.YtakejacamkdncaaGreatDoor
open Go.RowKit Go.Shelf Go.Deep
set_option linter.unusedVariables false
set_option linter.unusedSimpArgs false
set_option maxRecDepth 100000

theorem Lst.nmAt2 {w : World} {B : Nat} {uo : Option Addr} {uc : Nat} {E : List Ent} (h : Lst w B (.slice uo E.length uc) (E.map Ent.nm)) {k : Nat} (hk : k < E.length) :
    ∃ g, uo = some ⟨g, 0, none⟩ ∧ ∀ W, Below w.heap.size w W → W.cell? ⟨g, k, none⟩ = some (.string (str (E[k]'hk).nm)) := by
  obtain ⟨g, cap, e, hc⟩ := h.at (k := k) (by rw [List.length_map]; exact hk)
  have e2 : uo = some ⟨g, 0, none⟩ := by injection e
  refine ⟨g, e2, fun W hW => ?_⟩
  rw [Nat.zero_add] at hc
  rw [hW.cell (p := ⟨g, k, none⟩) (World.block_lt_of_cell? w _ hc), hc, List.getElem_map]
theorem nm_short2 {q : Nat} {E : List Ent} (h : DGood q E) {j : Nat} (hj : j < E.length) : (E[j]'hj).nm.length ≤ 32 := by
  have := h.nms _ (List.getElem_mem hj)
  simp [isNm] at this
  exact this.1.2
end Go.Proofs.YtakejacamkdncaaGreatDoor
