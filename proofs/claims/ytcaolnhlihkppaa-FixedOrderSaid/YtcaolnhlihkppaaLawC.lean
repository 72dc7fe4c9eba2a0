/- The Go function FixedOrder, called with three numbers of 32 bits, returns true and leaves the world as it was: every case of the order of the first two and of where the third one stands is walked. Conditions: the numbers lie in their kind's range. -/
import Derived.Test.YtcaolnhlihkppaaLawA
namespace Go.Proofs.Ytcaolnhlihkppaa
open Go.RowKit
set_option linter.unusedVariables false

theorem fl_mono {a b : Int} (h : a ≤ b) : fl a 256 ≤ fl b 256 := by
  rw [fl_pos (by omega), fl_pos (by omega)]; exact Int.ediv_le_ediv (by omega) h

set_option maxHeartbeats 800000 in
theorem orderNloP (x y z s t m u : Int) (w : World) (x1 : -2147483648 ≤ x) (x2 : x ≤ 2147483647) (y1 : -2147483648 ≤ y) (y2 : y ≤ 2147483647) (z1 : -2147483648 ≤ z) (z2 : z ≤ 2147483647) (s1 : -2147483648 ≤ s) (s2 : s ≤ 2147483647) (t1 : -2147483648 ≤ t) (t2 : t ≤ 2147483647) (m1 : -2147483648 ≤ m) (m2 : m ≤ 2147483647) (u1 : -2147483648 ≤ u) (u2 : u ≤ 2147483647)
    (hxy : x < y) (hz : 0 ≤ z) (hp : z < x) (hs : s ≤ t) (hm : 0 ≤ z → m ≤ u)
    (E1 : Hid (bnd (x + z) = s)) (E2 : Hid (bnd (y + z) = t)) (E3 : Hid (bnd (fl (x * z) 256) = m)) (E4 : Hid (bnd (fl (y * z) 256) = u)) :
    Calls Try.prog 12 #[.int .i32 x, .int .i32 y, .int .i32 z] w fun e w' => e = .returned (.bool true) ∧ w = w' := by
  have hm' := hm hz
  clear hm
  have K1 : Hid (wit z x y = x) := Lib.hid (by unfold wit; (repeat' split) <;> omega)
  have K2 : Hid (wit x x y = x) := Lib.hid (by unfold wit; (repeat' split) <;> omega)
  go_enter Try.func12, Try.ntmps12
  go_wp2_with fail
  refine (fixedAddAt x z s _ (by omega) (by omega) (by omega) (by omega) E1.out).mono ?_
  rintro e w' ⟨rfl, rfl⟩
  go_wp2_with fail
  refine (fixedAddAt z x s _ (by omega) (by omega) (by omega) (by omega) (by rw [Int.add_comm]; exact E1.out)).mono ?_
  rintro e w' ⟨rfl, rfl⟩
  go_wp2_with fail
  refine (fixedMulAt x z m _ (by omega) (by omega) (by omega) (by omega) E3.out).mono ?_
  rintro e w' ⟨rfl, rfl⟩
  go_wp2_with fail
  refine (fixedMulAt z x m _ (by omega) (by omega) (by omega) (by omega) (by rw [Int.mul_comm]; exact E3.out)).mono ?_
  rintro e w' ⟨rfl, rfl⟩
  go_wp2_with fail
  refine (fixedAddAt x z s _ (by omega) (by omega) (by omega) (by omega) E1.out).mono ?_
  rintro e w' ⟨rfl, rfl⟩
  go_wp2_with fail
  refine (fixedAddAt y z t _ (by omega) (by omega) (by omega) (by omega) E2.out).mono ?_
  rintro e w' ⟨rfl, rfl⟩
  go_wp2_with fail
  refine (fixedMulAt x z m _ (by omega) (by omega) (by omega) (by omega) E3.out).mono ?_
  rintro e w' ⟨rfl, rfl⟩
  go_wp2_with fail
  refine (fixedMulAt y z u _ (by omega) (by omega) (by omega) (by omega) E4.out).mono ?_
  rintro e w' ⟨rfl, rfl⟩
  go_wp2_with fail
  refine (fixedClampAt z x y x _ K1.out).mono ?_
  rintro e w' ⟨rfl, rfl⟩
  go_wp2_with fail
  refine (fixedClampAt x x y x _ K2.out).mono ?_
  rintro e w' ⟨rfl, rfl⟩
  go_wp2_with fail
  refine (awake _).mono ?_
  rintro e w' ⟨rfl, rfl⟩
  go_wp2
  go_ret
  exact ⟨rfl, rfl⟩

set_option maxHeartbeats 800000 in
theorem orderNloM (x y z s t m u : Int) (w : World) (x1 : -2147483648 ≤ x) (x2 : x ≤ 2147483647) (y1 : -2147483648 ≤ y) (y2 : y ≤ 2147483647) (z1 : -2147483648 ≤ z) (z2 : z ≤ 2147483647) (s1 : -2147483648 ≤ s) (s2 : s ≤ 2147483647) (t1 : -2147483648 ≤ t) (t2 : t ≤ 2147483647) (m1 : -2147483648 ≤ m) (m2 : m ≤ 2147483647) (u1 : -2147483648 ≤ u) (u2 : u ≤ 2147483647)
    (hxy : x < y) (hz : z < 0) (hp : z < x) (hs : s ≤ t) (hm : 0 ≤ z → m ≤ u)
    (E1 : Hid (bnd (x + z) = s)) (E2 : Hid (bnd (y + z) = t)) (E3 : Hid (bnd (fl (x * z) 256) = m)) (E4 : Hid (bnd (fl (y * z) 256) = u)) :
    Calls Try.prog 12 #[.int .i32 x, .int .i32 y, .int .i32 z] w fun e w' => e = .returned (.bool true) ∧ w = w' := by
  clear hm
  have K1 : Hid (wit z x y = x) := Lib.hid (by unfold wit; (repeat' split) <;> omega)
  have K2 : Hid (wit x x y = x) := Lib.hid (by unfold wit; (repeat' split) <;> omega)
  go_enter Try.func12, Try.ntmps12
  go_wp2_with fail
  refine (fixedAddAt x z s _ (by omega) (by omega) (by omega) (by omega) E1.out).mono ?_
  rintro e w' ⟨rfl, rfl⟩
  go_wp2_with fail
  refine (fixedAddAt z x s _ (by omega) (by omega) (by omega) (by omega) (by rw [Int.add_comm]; exact E1.out)).mono ?_
  rintro e w' ⟨rfl, rfl⟩
  go_wp2_with fail
  refine (fixedMulAt x z m _ (by omega) (by omega) (by omega) (by omega) E3.out).mono ?_
  rintro e w' ⟨rfl, rfl⟩
  go_wp2_with fail
  refine (fixedMulAt z x m _ (by omega) (by omega) (by omega) (by omega) (by rw [Int.mul_comm]; exact E3.out)).mono ?_
  rintro e w' ⟨rfl, rfl⟩
  go_wp2_with fail
  refine (fixedAddAt x z s _ (by omega) (by omega) (by omega) (by omega) E1.out).mono ?_
  rintro e w' ⟨rfl, rfl⟩
  go_wp2_with fail
  refine (fixedAddAt y z t _ (by omega) (by omega) (by omega) (by omega) E2.out).mono ?_
  rintro e w' ⟨rfl, rfl⟩
  go_wp2_with fail
  refine (fixedClampAt z x y x _ K1.out).mono ?_
  rintro e w' ⟨rfl, rfl⟩
  go_wp2_with fail
  refine (fixedClampAt x x y x _ K2.out).mono ?_
  rintro e w' ⟨rfl, rfl⟩
  go_wp2_with fail
  refine (awake _).mono ?_
  rintro e w' ⟨rfl, rfl⟩
  go_wp2
  go_ret
  exact ⟨rfl, rfl⟩

set_option maxHeartbeats 800000 in
theorem orderNhiP (x y z s t m u : Int) (w : World) (x1 : -2147483648 ≤ x) (x2 : x ≤ 2147483647) (y1 : -2147483648 ≤ y) (y2 : y ≤ 2147483647) (z1 : -2147483648 ≤ z) (z2 : z ≤ 2147483647) (s1 : -2147483648 ≤ s) (s2 : s ≤ 2147483647) (t1 : -2147483648 ≤ t) (t2 : t ≤ 2147483647) (m1 : -2147483648 ≤ m) (m2 : m ≤ 2147483647) (u1 : -2147483648 ≤ u) (u2 : u ≤ 2147483647)
    (hxy : x < y) (hz : 0 ≤ z) (hp : y < z) (hs : s ≤ t) (hm : 0 ≤ z → m ≤ u)
    (E1 : Hid (bnd (x + z) = s)) (E2 : Hid (bnd (y + z) = t)) (E3 : Hid (bnd (fl (x * z) 256) = m)) (E4 : Hid (bnd (fl (y * z) 256) = u)) :
    Calls Try.prog 12 #[.int .i32 x, .int .i32 y, .int .i32 z] w fun e w' => e = .returned (.bool true) ∧ w = w' := by
  have hm' := hm hz
  clear hm
  have K1 : Hid (wit z x y = y) := Lib.hid (by unfold wit; (repeat' split) <;> omega)
  have K2 : Hid (wit y x y = y) := Lib.hid (by unfold wit; (repeat' split) <;> omega)
  go_enter Try.func12, Try.ntmps12
  go_wp2_with fail
  refine (fixedAddAt x z s _ (by omega) (by omega) (by omega) (by omega) E1.out).mono ?_
  rintro e w' ⟨rfl, rfl⟩
  go_wp2_with fail
  refine (fixedAddAt z x s _ (by omega) (by omega) (by omega) (by omega) (by rw [Int.add_comm]; exact E1.out)).mono ?_
  rintro e w' ⟨rfl, rfl⟩
  go_wp2_with fail
  refine (fixedMulAt x z m _ (by omega) (by omega) (by omega) (by omega) E3.out).mono ?_
  rintro e w' ⟨rfl, rfl⟩
  go_wp2_with fail
  refine (fixedMulAt z x m _ (by omega) (by omega) (by omega) (by omega) (by rw [Int.mul_comm]; exact E3.out)).mono ?_
  rintro e w' ⟨rfl, rfl⟩
  go_wp2_with fail
  refine (fixedAddAt x z s _ (by omega) (by omega) (by omega) (by omega) E1.out).mono ?_
  rintro e w' ⟨rfl, rfl⟩
  go_wp2_with fail
  refine (fixedAddAt y z t _ (by omega) (by omega) (by omega) (by omega) E2.out).mono ?_
  rintro e w' ⟨rfl, rfl⟩
  go_wp2_with fail
  refine (fixedMulAt x z m _ (by omega) (by omega) (by omega) (by omega) E3.out).mono ?_
  rintro e w' ⟨rfl, rfl⟩
  go_wp2_with fail
  refine (fixedMulAt y z u _ (by omega) (by omega) (by omega) (by omega) E4.out).mono ?_
  rintro e w' ⟨rfl, rfl⟩
  go_wp2_with fail
  refine (fixedClampAt z x y y _ K1.out).mono ?_
  rintro e w' ⟨rfl, rfl⟩
  go_wp2_with fail
  refine (fixedClampAt y x y y _ K2.out).mono ?_
  rintro e w' ⟨rfl, rfl⟩
  go_wp2_with fail
  refine (awake _).mono ?_
  rintro e w' ⟨rfl, rfl⟩
  go_wp2
  go_ret
  exact ⟨rfl, rfl⟩

set_option maxHeartbeats 800000 in
theorem orderNhiM (x y z s t m u : Int) (w : World) (x1 : -2147483648 ≤ x) (x2 : x ≤ 2147483647) (y1 : -2147483648 ≤ y) (y2 : y ≤ 2147483647) (z1 : -2147483648 ≤ z) (z2 : z ≤ 2147483647) (s1 : -2147483648 ≤ s) (s2 : s ≤ 2147483647) (t1 : -2147483648 ≤ t) (t2 : t ≤ 2147483647) (m1 : -2147483648 ≤ m) (m2 : m ≤ 2147483647) (u1 : -2147483648 ≤ u) (u2 : u ≤ 2147483647)
    (hxy : x < y) (hz : z < 0) (hp : y < z) (hs : s ≤ t) (hm : 0 ≤ z → m ≤ u)
    (E1 : Hid (bnd (x + z) = s)) (E2 : Hid (bnd (y + z) = t)) (E3 : Hid (bnd (fl (x * z) 256) = m)) (E4 : Hid (bnd (fl (y * z) 256) = u)) :
    Calls Try.prog 12 #[.int .i32 x, .int .i32 y, .int .i32 z] w fun e w' => e = .returned (.bool true) ∧ w = w' := by
  clear hm
  have K1 : Hid (wit z x y = y) := Lib.hid (by unfold wit; (repeat' split) <;> omega)
  have K2 : Hid (wit y x y = y) := Lib.hid (by unfold wit; (repeat' split) <;> omega)
  go_enter Try.func12, Try.ntmps12
  go_wp2_with fail
  refine (fixedAddAt x z s _ (by omega) (by omega) (by omega) (by omega) E1.out).mono ?_
  rintro e w' ⟨rfl, rfl⟩
  go_wp2_with fail
  refine (fixedAddAt z x s _ (by omega) (by omega) (by omega) (by omega) (by rw [Int.add_comm]; exact E1.out)).mono ?_
  rintro e w' ⟨rfl, rfl⟩
  go_wp2_with fail
  refine (fixedMulAt x z m _ (by omega) (by omega) (by omega) (by omega) E3.out).mono ?_
  rintro e w' ⟨rfl, rfl⟩
  go_wp2_with fail
  refine (fixedMulAt z x m _ (by omega) (by omega) (by omega) (by omega) (by rw [Int.mul_comm]; exact E3.out)).mono ?_
  rintro e w' ⟨rfl, rfl⟩
  go_wp2_with fail
  refine (fixedAddAt x z s _ (by omega) (by omega) (by omega) (by omega) E1.out).mono ?_
  rintro e w' ⟨rfl, rfl⟩
  go_wp2_with fail
  refine (fixedAddAt y z t _ (by omega) (by omega) (by omega) (by omega) E2.out).mono ?_
  rintro e w' ⟨rfl, rfl⟩
  go_wp2_with fail
  refine (fixedClampAt z x y y _ K1.out).mono ?_
  rintro e w' ⟨rfl, rfl⟩
  go_wp2_with fail
  refine (fixedClampAt y x y y _ K2.out).mono ?_
  rintro e w' ⟨rfl, rfl⟩
  go_wp2_with fail
  refine (awake _).mono ?_
  rintro e w' ⟨rfl, rfl⟩
  go_wp2
  go_ret
  exact ⟨rfl, rfl⟩

set_option maxHeartbeats 800000 in
theorem orderNmidP (x y z s t m u : Int) (w : World) (x1 : -2147483648 ≤ x) (x2 : x ≤ 2147483647) (y1 : -2147483648 ≤ y) (y2 : y ≤ 2147483647) (z1 : -2147483648 ≤ z) (z2 : z ≤ 2147483647) (s1 : -2147483648 ≤ s) (s2 : s ≤ 2147483647) (t1 : -2147483648 ≤ t) (t2 : t ≤ 2147483647) (m1 : -2147483648 ≤ m) (m2 : m ≤ 2147483647) (u1 : -2147483648 ≤ u) (u2 : u ≤ 2147483647)
    (hxy : x < y) (hz : 0 ≤ z) (hp : x ≤ z ∧ z ≤ y) (hs : s ≤ t) (hm : 0 ≤ z → m ≤ u)
    (E1 : Hid (bnd (x + z) = s)) (E2 : Hid (bnd (y + z) = t)) (E3 : Hid (bnd (fl (x * z) 256) = m)) (E4 : Hid (bnd (fl (y * z) 256) = u)) :
    Calls Try.prog 12 #[.int .i32 x, .int .i32 y, .int .i32 z] w fun e w' => e = .returned (.bool true) ∧ w = w' := by
  obtain ⟨hp1, hp2⟩ := hp
  have hm' := hm hz
  clear hm
  have K1 : Hid (wit z x y = z) := Lib.hid (by unfold wit; (repeat' split) <;> omega)
  have K2 : Hid (wit z x y = z) := Lib.hid (by unfold wit; (repeat' split) <;> omega)
  go_enter Try.func12, Try.ntmps12
  go_wp2_with fail
  refine (fixedAddAt x z s _ (by omega) (by omega) (by omega) (by omega) E1.out).mono ?_
  rintro e w' ⟨rfl, rfl⟩
  go_wp2_with fail
  refine (fixedAddAt z x s _ (by omega) (by omega) (by omega) (by omega) (by rw [Int.add_comm]; exact E1.out)).mono ?_
  rintro e w' ⟨rfl, rfl⟩
  go_wp2_with fail
  refine (fixedMulAt x z m _ (by omega) (by omega) (by omega) (by omega) E3.out).mono ?_
  rintro e w' ⟨rfl, rfl⟩
  go_wp2_with fail
  refine (fixedMulAt z x m _ (by omega) (by omega) (by omega) (by omega) (by rw [Int.mul_comm]; exact E3.out)).mono ?_
  rintro e w' ⟨rfl, rfl⟩
  go_wp2_with fail
  refine (fixedAddAt x z s _ (by omega) (by omega) (by omega) (by omega) E1.out).mono ?_
  rintro e w' ⟨rfl, rfl⟩
  go_wp2_with fail
  refine (fixedAddAt y z t _ (by omega) (by omega) (by omega) (by omega) E2.out).mono ?_
  rintro e w' ⟨rfl, rfl⟩
  go_wp2_with fail
  refine (fixedMulAt x z m _ (by omega) (by omega) (by omega) (by omega) E3.out).mono ?_
  rintro e w' ⟨rfl, rfl⟩
  go_wp2_with fail
  refine (fixedMulAt y z u _ (by omega) (by omega) (by omega) (by omega) E4.out).mono ?_
  rintro e w' ⟨rfl, rfl⟩
  go_wp2_with fail
  refine (fixedClampAt z x y z _ K1.out).mono ?_
  rintro e w' ⟨rfl, rfl⟩
  go_wp2_with fail
  refine (fixedClampAt z x y z _ K2.out).mono ?_
  rintro e w' ⟨rfl, rfl⟩
  go_wp2_with fail
  refine (awake _).mono ?_
  rintro e w' ⟨rfl, rfl⟩
  go_wp2
  go_ret
  exact ⟨rfl, rfl⟩

set_option maxHeartbeats 800000 in
theorem orderNmidM (x y z s t m u : Int) (w : World) (x1 : -2147483648 ≤ x) (x2 : x ≤ 2147483647) (y1 : -2147483648 ≤ y) (y2 : y ≤ 2147483647) (z1 : -2147483648 ≤ z) (z2 : z ≤ 2147483647) (s1 : -2147483648 ≤ s) (s2 : s ≤ 2147483647) (t1 : -2147483648 ≤ t) (t2 : t ≤ 2147483647) (m1 : -2147483648 ≤ m) (m2 : m ≤ 2147483647) (u1 : -2147483648 ≤ u) (u2 : u ≤ 2147483647)
    (hxy : x < y) (hz : z < 0) (hp : x ≤ z ∧ z ≤ y) (hs : s ≤ t) (hm : 0 ≤ z → m ≤ u)
    (E1 : Hid (bnd (x + z) = s)) (E2 : Hid (bnd (y + z) = t)) (E3 : Hid (bnd (fl (x * z) 256) = m)) (E4 : Hid (bnd (fl (y * z) 256) = u)) :
    Calls Try.prog 12 #[.int .i32 x, .int .i32 y, .int .i32 z] w fun e w' => e = .returned (.bool true) ∧ w = w' := by
  obtain ⟨hp1, hp2⟩ := hp
  clear hm
  have K1 : Hid (wit z x y = z) := Lib.hid (by unfold wit; (repeat' split) <;> omega)
  have K2 : Hid (wit z x y = z) := Lib.hid (by unfold wit; (repeat' split) <;> omega)
  go_enter Try.func12, Try.ntmps12
  go_wp2_with fail
  refine (fixedAddAt x z s _ (by omega) (by omega) (by omega) (by omega) E1.out).mono ?_
  rintro e w' ⟨rfl, rfl⟩
  go_wp2_with fail
  refine (fixedAddAt z x s _ (by omega) (by omega) (by omega) (by omega) (by rw [Int.add_comm]; exact E1.out)).mono ?_
  rintro e w' ⟨rfl, rfl⟩
  go_wp2_with fail
  refine (fixedMulAt x z m _ (by omega) (by omega) (by omega) (by omega) E3.out).mono ?_
  rintro e w' ⟨rfl, rfl⟩
  go_wp2_with fail
  refine (fixedMulAt z x m _ (by omega) (by omega) (by omega) (by omega) (by rw [Int.mul_comm]; exact E3.out)).mono ?_
  rintro e w' ⟨rfl, rfl⟩
  go_wp2_with fail
  refine (fixedAddAt x z s _ (by omega) (by omega) (by omega) (by omega) E1.out).mono ?_
  rintro e w' ⟨rfl, rfl⟩
  go_wp2_with fail
  refine (fixedAddAt y z t _ (by omega) (by omega) (by omega) (by omega) E2.out).mono ?_
  rintro e w' ⟨rfl, rfl⟩
  go_wp2_with fail
  refine (fixedClampAt z x y z _ K1.out).mono ?_
  rintro e w' ⟨rfl, rfl⟩
  go_wp2_with fail
  refine (fixedClampAt z x y z _ K2.out).mono ?_
  rintro e w' ⟨rfl, rfl⟩
  go_wp2_with fail
  refine (awake _).mono ?_
  rintro e w' ⟨rfl, rfl⟩
  go_wp2
  go_ret
  exact ⟨rfl, rfl⟩

set_option maxHeartbeats 800000 in
theorem orderSloP (x y z s t m u : Int) (w : World) (x1 : -2147483648 ≤ x) (x2 : x ≤ 2147483647) (y1 : -2147483648 ≤ y) (y2 : y ≤ 2147483647) (z1 : -2147483648 ≤ z) (z2 : z ≤ 2147483647) (s1 : -2147483648 ≤ s) (s2 : s ≤ 2147483647) (t1 : -2147483648 ≤ t) (t2 : t ≤ 2147483647) (m1 : -2147483648 ≤ m) (m2 : m ≤ 2147483647) (u1 : -2147483648 ≤ u) (u2 : u ≤ 2147483647)
    (hxy : x < y) (hz : 0 ≤ z) (hp : z < x) (hs : s ≤ t) (hm : 0 ≤ z → m ≤ u)
    (E1 : Hid (bnd (x + z) = s)) (E2 : Hid (bnd (y + z) = t)) (E3 : Hid (bnd (fl (x * z) 256) = m)) (E4 : Hid (bnd (fl (y * z) 256) = u)) :
    Calls Try.prog 12 #[.int .i32 y, .int .i32 x, .int .i32 z] w fun e w' => e = .returned (.bool true) ∧ w = w' := by
  have hm' := hm hz
  clear hm
  have K1 : Hid (wit z x y = x) := Lib.hid (by unfold wit; (repeat' split) <;> omega)
  have K2 : Hid (wit x x y = x) := Lib.hid (by unfold wit; (repeat' split) <;> omega)
  go_enter Try.func12, Try.ntmps12
  go_wp2_with fail
  refine (fixedAddAt x z s _ (by omega) (by omega) (by omega) (by omega) E1.out).mono ?_
  rintro e w' ⟨rfl, rfl⟩
  go_wp2_with fail
  refine (fixedAddAt z x s _ (by omega) (by omega) (by omega) (by omega) (by rw [Int.add_comm]; exact E1.out)).mono ?_
  rintro e w' ⟨rfl, rfl⟩
  go_wp2_with fail
  refine (fixedMulAt x z m _ (by omega) (by omega) (by omega) (by omega) E3.out).mono ?_
  rintro e w' ⟨rfl, rfl⟩
  go_wp2_with fail
  refine (fixedMulAt z x m _ (by omega) (by omega) (by omega) (by omega) (by rw [Int.mul_comm]; exact E3.out)).mono ?_
  rintro e w' ⟨rfl, rfl⟩
  go_wp2_with fail
  refine (fixedAddAt x z s _ (by omega) (by omega) (by omega) (by omega) E1.out).mono ?_
  rintro e w' ⟨rfl, rfl⟩
  go_wp2_with fail
  refine (fixedAddAt y z t _ (by omega) (by omega) (by omega) (by omega) E2.out).mono ?_
  rintro e w' ⟨rfl, rfl⟩
  go_wp2_with fail
  refine (fixedMulAt x z m _ (by omega) (by omega) (by omega) (by omega) E3.out).mono ?_
  rintro e w' ⟨rfl, rfl⟩
  go_wp2_with fail
  refine (fixedMulAt y z u _ (by omega) (by omega) (by omega) (by omega) E4.out).mono ?_
  rintro e w' ⟨rfl, rfl⟩
  go_wp2_with fail
  refine (fixedClampAt z x y x _ K1.out).mono ?_
  rintro e w' ⟨rfl, rfl⟩
  go_wp2_with fail
  refine (fixedClampAt x x y x _ K2.out).mono ?_
  rintro e w' ⟨rfl, rfl⟩
  go_wp2_with fail
  refine (awake _).mono ?_
  rintro e w' ⟨rfl, rfl⟩
  go_wp2
  go_ret
  exact ⟨rfl, rfl⟩

set_option maxHeartbeats 800000 in
theorem orderSloM (x y z s t m u : Int) (w : World) (x1 : -2147483648 ≤ x) (x2 : x ≤ 2147483647) (y1 : -2147483648 ≤ y) (y2 : y ≤ 2147483647) (z1 : -2147483648 ≤ z) (z2 : z ≤ 2147483647) (s1 : -2147483648 ≤ s) (s2 : s ≤ 2147483647) (t1 : -2147483648 ≤ t) (t2 : t ≤ 2147483647) (m1 : -2147483648 ≤ m) (m2 : m ≤ 2147483647) (u1 : -2147483648 ≤ u) (u2 : u ≤ 2147483647)
    (hxy : x < y) (hz : z < 0) (hp : z < x) (hs : s ≤ t) (hm : 0 ≤ z → m ≤ u)
    (E1 : Hid (bnd (x + z) = s)) (E2 : Hid (bnd (y + z) = t)) (E3 : Hid (bnd (fl (x * z) 256) = m)) (E4 : Hid (bnd (fl (y * z) 256) = u)) :
    Calls Try.prog 12 #[.int .i32 y, .int .i32 x, .int .i32 z] w fun e w' => e = .returned (.bool true) ∧ w = w' := by
  clear hm
  have K1 : Hid (wit z x y = x) := Lib.hid (by unfold wit; (repeat' split) <;> omega)
  have K2 : Hid (wit x x y = x) := Lib.hid (by unfold wit; (repeat' split) <;> omega)
  go_enter Try.func12, Try.ntmps12
  go_wp2_with fail
  refine (fixedAddAt x z s _ (by omega) (by omega) (by omega) (by omega) E1.out).mono ?_
  rintro e w' ⟨rfl, rfl⟩
  go_wp2_with fail
  refine (fixedAddAt z x s _ (by omega) (by omega) (by omega) (by omega) (by rw [Int.add_comm]; exact E1.out)).mono ?_
  rintro e w' ⟨rfl, rfl⟩
  go_wp2_with fail
  refine (fixedMulAt x z m _ (by omega) (by omega) (by omega) (by omega) E3.out).mono ?_
  rintro e w' ⟨rfl, rfl⟩
  go_wp2_with fail
  refine (fixedMulAt z x m _ (by omega) (by omega) (by omega) (by omega) (by rw [Int.mul_comm]; exact E3.out)).mono ?_
  rintro e w' ⟨rfl, rfl⟩
  go_wp2_with fail
  refine (fixedAddAt x z s _ (by omega) (by omega) (by omega) (by omega) E1.out).mono ?_
  rintro e w' ⟨rfl, rfl⟩
  go_wp2_with fail
  refine (fixedAddAt y z t _ (by omega) (by omega) (by omega) (by omega) E2.out).mono ?_
  rintro e w' ⟨rfl, rfl⟩
  go_wp2_with fail
  refine (fixedClampAt z x y x _ K1.out).mono ?_
  rintro e w' ⟨rfl, rfl⟩
  go_wp2_with fail
  refine (fixedClampAt x x y x _ K2.out).mono ?_
  rintro e w' ⟨rfl, rfl⟩
  go_wp2_with fail
  refine (awake _).mono ?_
  rintro e w' ⟨rfl, rfl⟩
  go_wp2
  go_ret
  exact ⟨rfl, rfl⟩

set_option maxHeartbeats 800000 in
theorem orderShiP (x y z s t m u : Int) (w : World) (x1 : -2147483648 ≤ x) (x2 : x ≤ 2147483647) (y1 : -2147483648 ≤ y) (y2 : y ≤ 2147483647) (z1 : -2147483648 ≤ z) (z2 : z ≤ 2147483647) (s1 : -2147483648 ≤ s) (s2 : s ≤ 2147483647) (t1 : -2147483648 ≤ t) (t2 : t ≤ 2147483647) (m1 : -2147483648 ≤ m) (m2 : m ≤ 2147483647) (u1 : -2147483648 ≤ u) (u2 : u ≤ 2147483647)
    (hxy : x < y) (hz : 0 ≤ z) (hp : y < z) (hs : s ≤ t) (hm : 0 ≤ z → m ≤ u)
    (E1 : Hid (bnd (x + z) = s)) (E2 : Hid (bnd (y + z) = t)) (E3 : Hid (bnd (fl (x * z) 256) = m)) (E4 : Hid (bnd (fl (y * z) 256) = u)) :
    Calls Try.prog 12 #[.int .i32 y, .int .i32 x, .int .i32 z] w fun e w' => e = .returned (.bool true) ∧ w = w' := by
  have hm' := hm hz
  clear hm
  have K1 : Hid (wit z x y = y) := Lib.hid (by unfold wit; (repeat' split) <;> omega)
  have K2 : Hid (wit y x y = y) := Lib.hid (by unfold wit; (repeat' split) <;> omega)
  go_enter Try.func12, Try.ntmps12
  go_wp2_with fail
  refine (fixedAddAt x z s _ (by omega) (by omega) (by omega) (by omega) E1.out).mono ?_
  rintro e w' ⟨rfl, rfl⟩
  go_wp2_with fail
  refine (fixedAddAt z x s _ (by omega) (by omega) (by omega) (by omega) (by rw [Int.add_comm]; exact E1.out)).mono ?_
  rintro e w' ⟨rfl, rfl⟩
  go_wp2_with fail
  refine (fixedMulAt x z m _ (by omega) (by omega) (by omega) (by omega) E3.out).mono ?_
  rintro e w' ⟨rfl, rfl⟩
  go_wp2_with fail
  refine (fixedMulAt z x m _ (by omega) (by omega) (by omega) (by omega) (by rw [Int.mul_comm]; exact E3.out)).mono ?_
  rintro e w' ⟨rfl, rfl⟩
  go_wp2_with fail
  refine (fixedAddAt x z s _ (by omega) (by omega) (by omega) (by omega) E1.out).mono ?_
  rintro e w' ⟨rfl, rfl⟩
  go_wp2_with fail
  refine (fixedAddAt y z t _ (by omega) (by omega) (by omega) (by omega) E2.out).mono ?_
  rintro e w' ⟨rfl, rfl⟩
  go_wp2_with fail
  refine (fixedMulAt x z m _ (by omega) (by omega) (by omega) (by omega) E3.out).mono ?_
  rintro e w' ⟨rfl, rfl⟩
  go_wp2_with fail
  refine (fixedMulAt y z u _ (by omega) (by omega) (by omega) (by omega) E4.out).mono ?_
  rintro e w' ⟨rfl, rfl⟩
  go_wp2_with fail
  refine (fixedClampAt z x y y _ K1.out).mono ?_
  rintro e w' ⟨rfl, rfl⟩
  go_wp2_with fail
  refine (fixedClampAt y x y y _ K2.out).mono ?_
  rintro e w' ⟨rfl, rfl⟩
  go_wp2_with fail
  refine (awake _).mono ?_
  rintro e w' ⟨rfl, rfl⟩
  go_wp2
  go_ret
  exact ⟨rfl, rfl⟩

set_option maxHeartbeats 800000 in
theorem orderShiM (x y z s t m u : Int) (w : World) (x1 : -2147483648 ≤ x) (x2 : x ≤ 2147483647) (y1 : -2147483648 ≤ y) (y2 : y ≤ 2147483647) (z1 : -2147483648 ≤ z) (z2 : z ≤ 2147483647) (s1 : -2147483648 ≤ s) (s2 : s ≤ 2147483647) (t1 : -2147483648 ≤ t) (t2 : t ≤ 2147483647) (m1 : -2147483648 ≤ m) (m2 : m ≤ 2147483647) (u1 : -2147483648 ≤ u) (u2 : u ≤ 2147483647)
    (hxy : x < y) (hz : z < 0) (hp : y < z) (hs : s ≤ t) (hm : 0 ≤ z → m ≤ u)
    (E1 : Hid (bnd (x + z) = s)) (E2 : Hid (bnd (y + z) = t)) (E3 : Hid (bnd (fl (x * z) 256) = m)) (E4 : Hid (bnd (fl (y * z) 256) = u)) :
    Calls Try.prog 12 #[.int .i32 y, .int .i32 x, .int .i32 z] w fun e w' => e = .returned (.bool true) ∧ w = w' := by
  clear hm
  have K1 : Hid (wit z x y = y) := Lib.hid (by unfold wit; (repeat' split) <;> omega)
  have K2 : Hid (wit y x y = y) := Lib.hid (by unfold wit; (repeat' split) <;> omega)
  go_enter Try.func12, Try.ntmps12
  go_wp2_with fail
  refine (fixedAddAt x z s _ (by omega) (by omega) (by omega) (by omega) E1.out).mono ?_
  rintro e w' ⟨rfl, rfl⟩
  go_wp2_with fail
  refine (fixedAddAt z x s _ (by omega) (by omega) (by omega) (by omega) (by rw [Int.add_comm]; exact E1.out)).mono ?_
  rintro e w' ⟨rfl, rfl⟩
  go_wp2_with fail
  refine (fixedMulAt x z m _ (by omega) (by omega) (by omega) (by omega) E3.out).mono ?_
  rintro e w' ⟨rfl, rfl⟩
  go_wp2_with fail
  refine (fixedMulAt z x m _ (by omega) (by omega) (by omega) (by omega) (by rw [Int.mul_comm]; exact E3.out)).mono ?_
  rintro e w' ⟨rfl, rfl⟩
  go_wp2_with fail
  refine (fixedAddAt x z s _ (by omega) (by omega) (by omega) (by omega) E1.out).mono ?_
  rintro e w' ⟨rfl, rfl⟩
  go_wp2_with fail
  refine (fixedAddAt y z t _ (by omega) (by omega) (by omega) (by omega) E2.out).mono ?_
  rintro e w' ⟨rfl, rfl⟩
  go_wp2_with fail
  refine (fixedClampAt z x y y _ K1.out).mono ?_
  rintro e w' ⟨rfl, rfl⟩
  go_wp2_with fail
  refine (fixedClampAt y x y y _ K2.out).mono ?_
  rintro e w' ⟨rfl, rfl⟩
  go_wp2_with fail
  refine (awake _).mono ?_
  rintro e w' ⟨rfl, rfl⟩
  go_wp2
  go_ret
  exact ⟨rfl, rfl⟩

set_option maxHeartbeats 800000 in
theorem orderSmidP (x y z s t m u : Int) (w : World) (x1 : -2147483648 ≤ x) (x2 : x ≤ 2147483647) (y1 : -2147483648 ≤ y) (y2 : y ≤ 2147483647) (z1 : -2147483648 ≤ z) (z2 : z ≤ 2147483647) (s1 : -2147483648 ≤ s) (s2 : s ≤ 2147483647) (t1 : -2147483648 ≤ t) (t2 : t ≤ 2147483647) (m1 : -2147483648 ≤ m) (m2 : m ≤ 2147483647) (u1 : -2147483648 ≤ u) (u2 : u ≤ 2147483647)
    (hxy : x < y) (hz : 0 ≤ z) (hp : x ≤ z ∧ z ≤ y) (hs : s ≤ t) (hm : 0 ≤ z → m ≤ u)
    (E1 : Hid (bnd (x + z) = s)) (E2 : Hid (bnd (y + z) = t)) (E3 : Hid (bnd (fl (x * z) 256) = m)) (E4 : Hid (bnd (fl (y * z) 256) = u)) :
    Calls Try.prog 12 #[.int .i32 y, .int .i32 x, .int .i32 z] w fun e w' => e = .returned (.bool true) ∧ w = w' := by
  obtain ⟨hp1, hp2⟩ := hp
  have hm' := hm hz
  clear hm
  have K1 : Hid (wit z x y = z) := Lib.hid (by unfold wit; (repeat' split) <;> omega)
  have K2 : Hid (wit z x y = z) := Lib.hid (by unfold wit; (repeat' split) <;> omega)
  go_enter Try.func12, Try.ntmps12
  go_wp2_with fail
  refine (fixedAddAt x z s _ (by omega) (by omega) (by omega) (by omega) E1.out).mono ?_
  rintro e w' ⟨rfl, rfl⟩
  go_wp2_with fail
  refine (fixedAddAt z x s _ (by omega) (by omega) (by omega) (by omega) (by rw [Int.add_comm]; exact E1.out)).mono ?_
  rintro e w' ⟨rfl, rfl⟩
  go_wp2_with fail
  refine (fixedMulAt x z m _ (by omega) (by omega) (by omega) (by omega) E3.out).mono ?_
  rintro e w' ⟨rfl, rfl⟩
  go_wp2_with fail
  refine (fixedMulAt z x m _ (by omega) (by omega) (by omega) (by omega) (by rw [Int.mul_comm]; exact E3.out)).mono ?_
  rintro e w' ⟨rfl, rfl⟩
  go_wp2_with fail
  refine (fixedAddAt x z s _ (by omega) (by omega) (by omega) (by omega) E1.out).mono ?_
  rintro e w' ⟨rfl, rfl⟩
  go_wp2_with fail
  refine (fixedAddAt y z t _ (by omega) (by omega) (by omega) (by omega) E2.out).mono ?_
  rintro e w' ⟨rfl, rfl⟩
  go_wp2_with fail
  refine (fixedMulAt x z m _ (by omega) (by omega) (by omega) (by omega) E3.out).mono ?_
  rintro e w' ⟨rfl, rfl⟩
  go_wp2_with fail
  refine (fixedMulAt y z u _ (by omega) (by omega) (by omega) (by omega) E4.out).mono ?_
  rintro e w' ⟨rfl, rfl⟩
  go_wp2_with fail
  refine (fixedClampAt z x y z _ K1.out).mono ?_
  rintro e w' ⟨rfl, rfl⟩
  go_wp2_with fail
  refine (fixedClampAt z x y z _ K2.out).mono ?_
  rintro e w' ⟨rfl, rfl⟩
  go_wp2_with fail
  refine (awake _).mono ?_
  rintro e w' ⟨rfl, rfl⟩
  go_wp2
  go_ret
  exact ⟨rfl, rfl⟩

set_option maxHeartbeats 800000 in
theorem orderSmidM (x y z s t m u : Int) (w : World) (x1 : -2147483648 ≤ x) (x2 : x ≤ 2147483647) (y1 : -2147483648 ≤ y) (y2 : y ≤ 2147483647) (z1 : -2147483648 ≤ z) (z2 : z ≤ 2147483647) (s1 : -2147483648 ≤ s) (s2 : s ≤ 2147483647) (t1 : -2147483648 ≤ t) (t2 : t ≤ 2147483647) (m1 : -2147483648 ≤ m) (m2 : m ≤ 2147483647) (u1 : -2147483648 ≤ u) (u2 : u ≤ 2147483647)
    (hxy : x < y) (hz : z < 0) (hp : x ≤ z ∧ z ≤ y) (hs : s ≤ t) (hm : 0 ≤ z → m ≤ u)
    (E1 : Hid (bnd (x + z) = s)) (E2 : Hid (bnd (y + z) = t)) (E3 : Hid (bnd (fl (x * z) 256) = m)) (E4 : Hid (bnd (fl (y * z) 256) = u)) :
    Calls Try.prog 12 #[.int .i32 y, .int .i32 x, .int .i32 z] w fun e w' => e = .returned (.bool true) ∧ w = w' := by
  obtain ⟨hp1, hp2⟩ := hp
  clear hm
  have K1 : Hid (wit z x y = z) := Lib.hid (by unfold wit; (repeat' split) <;> omega)
  have K2 : Hid (wit z x y = z) := Lib.hid (by unfold wit; (repeat' split) <;> omega)
  go_enter Try.func12, Try.ntmps12
  go_wp2_with fail
  refine (fixedAddAt x z s _ (by omega) (by omega) (by omega) (by omega) E1.out).mono ?_
  rintro e w' ⟨rfl, rfl⟩
  go_wp2_with fail
  refine (fixedAddAt z x s _ (by omega) (by omega) (by omega) (by omega) (by rw [Int.add_comm]; exact E1.out)).mono ?_
  rintro e w' ⟨rfl, rfl⟩
  go_wp2_with fail
  refine (fixedMulAt x z m _ (by omega) (by omega) (by omega) (by omega) E3.out).mono ?_
  rintro e w' ⟨rfl, rfl⟩
  go_wp2_with fail
  refine (fixedMulAt z x m _ (by omega) (by omega) (by omega) (by omega) (by rw [Int.mul_comm]; exact E3.out)).mono ?_
  rintro e w' ⟨rfl, rfl⟩
  go_wp2_with fail
  refine (fixedAddAt x z s _ (by omega) (by omega) (by omega) (by omega) E1.out).mono ?_
  rintro e w' ⟨rfl, rfl⟩
  go_wp2_with fail
  refine (fixedAddAt y z t _ (by omega) (by omega) (by omega) (by omega) E2.out).mono ?_
  rintro e w' ⟨rfl, rfl⟩
  go_wp2_with fail
  refine (fixedClampAt z x y z _ K1.out).mono ?_
  rintro e w' ⟨rfl, rfl⟩
  go_wp2_with fail
  refine (fixedClampAt z x y z _ K2.out).mono ?_
  rintro e w' ⟨rfl, rfl⟩
  go_wp2_with fail
  refine (awake _).mono ?_
  rintro e w' ⟨rfl, rfl⟩
  go_wp2
  go_ret
  exact ⟨rfl, rfl⟩

set_option maxHeartbeats 800000 in
theorem orderEloP (x y z s t m u : Int) (w : World) (x1 : -2147483648 ≤ x) (x2 : x ≤ 2147483647) (y1 : -2147483648 ≤ y) (y2 : y ≤ 2147483647) (z1 : -2147483648 ≤ z) (z2 : z ≤ 2147483647) (s1 : -2147483648 ≤ s) (s2 : s ≤ 2147483647) (t1 : -2147483648 ≤ t) (t2 : t ≤ 2147483647) (m1 : -2147483648 ≤ m) (m2 : m ≤ 2147483647) (u1 : -2147483648 ≤ u) (u2 : u ≤ 2147483647)
    (hxy : x = y) (hz : 0 ≤ z) (hp : z < x) (hs : s ≤ t) (hm : 0 ≤ z → m ≤ u)
    (E1 : Hid (bnd (x + z) = s)) (E2 : Hid (bnd (y + z) = t)) (E3 : Hid (bnd (fl (x * z) 256) = m)) (E4 : Hid (bnd (fl (y * z) 256) = u)) :
    Calls Try.prog 12 #[.int .i32 x, .int .i32 y, .int .i32 z] w fun e w' => e = .returned (.bool true) ∧ w = w' := by
  have hm' := hm hz
  clear hm
  have K1 : Hid (wit z x y = x) := Lib.hid (by unfold wit; (repeat' split) <;> omega)
  have K2 : Hid (wit x x y = x) := Lib.hid (by unfold wit; (repeat' split) <;> omega)
  subst hxy
  go_enter Try.func12, Try.ntmps12
  go_wp2_with fail
  refine (fixedAddAt x z s _ (by omega) (by omega) (by omega) (by omega) E1.out).mono ?_
  rintro e w' ⟨rfl, rfl⟩
  go_wp2_with fail
  refine (fixedAddAt z x s _ (by omega) (by omega) (by omega) (by omega) (by rw [Int.add_comm]; exact E1.out)).mono ?_
  rintro e w' ⟨rfl, rfl⟩
  go_wp2_with fail
  refine (fixedMulAt x z m _ (by omega) (by omega) (by omega) (by omega) E3.out).mono ?_
  rintro e w' ⟨rfl, rfl⟩
  go_wp2_with fail
  refine (fixedMulAt z x m _ (by omega) (by omega) (by omega) (by omega) (by rw [Int.mul_comm]; exact E3.out)).mono ?_
  rintro e w' ⟨rfl, rfl⟩
  go_wp2_with fail
  refine (fixedAddAt x z s _ (by omega) (by omega) (by omega) (by omega) E1.out).mono ?_
  rintro e w' ⟨rfl, rfl⟩
  go_wp2_with fail
  refine (fixedAddAt x z t _ (by omega) (by omega) (by omega) (by omega) E2.out).mono ?_
  rintro e w' ⟨rfl, rfl⟩
  go_wp2_with fail
  refine (fixedMulAt x z m _ (by omega) (by omega) (by omega) (by omega) E3.out).mono ?_
  rintro e w' ⟨rfl, rfl⟩
  go_wp2_with fail
  refine (fixedMulAt x z u _ (by omega) (by omega) (by omega) (by omega) E4.out).mono ?_
  rintro e w' ⟨rfl, rfl⟩
  go_wp2_with fail
  refine (fixedClampAt z x x x _ K1.out).mono ?_
  rintro e w' ⟨rfl, rfl⟩
  go_wp2_with fail
  refine (fixedClampAt x x x x _ K2.out).mono ?_
  rintro e w' ⟨rfl, rfl⟩
  go_wp2_with fail
  refine (awake _).mono ?_
  rintro e w' ⟨rfl, rfl⟩
  go_wp2
  go_ret
  exact ⟨rfl, rfl⟩

set_option maxHeartbeats 800000 in
theorem orderEloM (x y z s t m u : Int) (w : World) (x1 : -2147483648 ≤ x) (x2 : x ≤ 2147483647) (y1 : -2147483648 ≤ y) (y2 : y ≤ 2147483647) (z1 : -2147483648 ≤ z) (z2 : z ≤ 2147483647) (s1 : -2147483648 ≤ s) (s2 : s ≤ 2147483647) (t1 : -2147483648 ≤ t) (t2 : t ≤ 2147483647) (m1 : -2147483648 ≤ m) (m2 : m ≤ 2147483647) (u1 : -2147483648 ≤ u) (u2 : u ≤ 2147483647)
    (hxy : x = y) (hz : z < 0) (hp : z < x) (hs : s ≤ t) (hm : 0 ≤ z → m ≤ u)
    (E1 : Hid (bnd (x + z) = s)) (E2 : Hid (bnd (y + z) = t)) (E3 : Hid (bnd (fl (x * z) 256) = m)) (E4 : Hid (bnd (fl (y * z) 256) = u)) :
    Calls Try.prog 12 #[.int .i32 x, .int .i32 y, .int .i32 z] w fun e w' => e = .returned (.bool true) ∧ w = w' := by
  clear hm
  have K1 : Hid (wit z x y = x) := Lib.hid (by unfold wit; (repeat' split) <;> omega)
  have K2 : Hid (wit x x y = x) := Lib.hid (by unfold wit; (repeat' split) <;> omega)
  subst hxy
  go_enter Try.func12, Try.ntmps12
  go_wp2_with fail
  refine (fixedAddAt x z s _ (by omega) (by omega) (by omega) (by omega) E1.out).mono ?_
  rintro e w' ⟨rfl, rfl⟩
  go_wp2_with fail
  refine (fixedAddAt z x s _ (by omega) (by omega) (by omega) (by omega) (by rw [Int.add_comm]; exact E1.out)).mono ?_
  rintro e w' ⟨rfl, rfl⟩
  go_wp2_with fail
  refine (fixedMulAt x z m _ (by omega) (by omega) (by omega) (by omega) E3.out).mono ?_
  rintro e w' ⟨rfl, rfl⟩
  go_wp2_with fail
  refine (fixedMulAt z x m _ (by omega) (by omega) (by omega) (by omega) (by rw [Int.mul_comm]; exact E3.out)).mono ?_
  rintro e w' ⟨rfl, rfl⟩
  go_wp2_with fail
  refine (fixedAddAt x z s _ (by omega) (by omega) (by omega) (by omega) E1.out).mono ?_
  rintro e w' ⟨rfl, rfl⟩
  go_wp2_with fail
  refine (fixedAddAt x z t _ (by omega) (by omega) (by omega) (by omega) E2.out).mono ?_
  rintro e w' ⟨rfl, rfl⟩
  go_wp2_with fail
  refine (fixedClampAt z x x x _ K1.out).mono ?_
  rintro e w' ⟨rfl, rfl⟩
  go_wp2_with fail
  refine (fixedClampAt x x x x _ K2.out).mono ?_
  rintro e w' ⟨rfl, rfl⟩
  go_wp2_with fail
  refine (awake _).mono ?_
  rintro e w' ⟨rfl, rfl⟩
  go_wp2
  go_ret
  exact ⟨rfl, rfl⟩

set_option maxHeartbeats 800000 in
theorem orderEhiP (x y z s t m u : Int) (w : World) (x1 : -2147483648 ≤ x) (x2 : x ≤ 2147483647) (y1 : -2147483648 ≤ y) (y2 : y ≤ 2147483647) (z1 : -2147483648 ≤ z) (z2 : z ≤ 2147483647) (s1 : -2147483648 ≤ s) (s2 : s ≤ 2147483647) (t1 : -2147483648 ≤ t) (t2 : t ≤ 2147483647) (m1 : -2147483648 ≤ m) (m2 : m ≤ 2147483647) (u1 : -2147483648 ≤ u) (u2 : u ≤ 2147483647)
    (hxy : x = y) (hz : 0 ≤ z) (hp : y < z) (hs : s ≤ t) (hm : 0 ≤ z → m ≤ u)
    (E1 : Hid (bnd (x + z) = s)) (E2 : Hid (bnd (y + z) = t)) (E3 : Hid (bnd (fl (x * z) 256) = m)) (E4 : Hid (bnd (fl (y * z) 256) = u)) :
    Calls Try.prog 12 #[.int .i32 x, .int .i32 y, .int .i32 z] w fun e w' => e = .returned (.bool true) ∧ w = w' := by
  have hm' := hm hz
  clear hm
  have K1 : Hid (wit z x y = y) := Lib.hid (by unfold wit; (repeat' split) <;> omega)
  have K2 : Hid (wit y x y = y) := Lib.hid (by unfold wit; (repeat' split) <;> omega)
  subst hxy
  go_enter Try.func12, Try.ntmps12
  go_wp2_with fail
  refine (fixedAddAt x z s _ (by omega) (by omega) (by omega) (by omega) E1.out).mono ?_
  rintro e w' ⟨rfl, rfl⟩
  go_wp2_with fail
  refine (fixedAddAt z x s _ (by omega) (by omega) (by omega) (by omega) (by rw [Int.add_comm]; exact E1.out)).mono ?_
  rintro e w' ⟨rfl, rfl⟩
  go_wp2_with fail
  refine (fixedMulAt x z m _ (by omega) (by omega) (by omega) (by omega) E3.out).mono ?_
  rintro e w' ⟨rfl, rfl⟩
  go_wp2_with fail
  refine (fixedMulAt z x m _ (by omega) (by omega) (by omega) (by omega) (by rw [Int.mul_comm]; exact E3.out)).mono ?_
  rintro e w' ⟨rfl, rfl⟩
  go_wp2_with fail
  refine (fixedAddAt x z s _ (by omega) (by omega) (by omega) (by omega) E1.out).mono ?_
  rintro e w' ⟨rfl, rfl⟩
  go_wp2_with fail
  refine (fixedAddAt x z t _ (by omega) (by omega) (by omega) (by omega) E2.out).mono ?_
  rintro e w' ⟨rfl, rfl⟩
  go_wp2_with fail
  refine (fixedMulAt x z m _ (by omega) (by omega) (by omega) (by omega) E3.out).mono ?_
  rintro e w' ⟨rfl, rfl⟩
  go_wp2_with fail
  refine (fixedMulAt x z u _ (by omega) (by omega) (by omega) (by omega) E4.out).mono ?_
  rintro e w' ⟨rfl, rfl⟩
  go_wp2_with fail
  refine (fixedClampAt z x x x _ K1.out).mono ?_
  rintro e w' ⟨rfl, rfl⟩
  go_wp2_with fail
  refine (fixedClampAt x x x x _ K2.out).mono ?_
  rintro e w' ⟨rfl, rfl⟩
  go_wp2_with fail
  refine (awake _).mono ?_
  rintro e w' ⟨rfl, rfl⟩
  go_wp2
  go_ret
  exact ⟨rfl, rfl⟩

set_option maxHeartbeats 800000 in
theorem orderEhiM (x y z s t m u : Int) (w : World) (x1 : -2147483648 ≤ x) (x2 : x ≤ 2147483647) (y1 : -2147483648 ≤ y) (y2 : y ≤ 2147483647) (z1 : -2147483648 ≤ z) (z2 : z ≤ 2147483647) (s1 : -2147483648 ≤ s) (s2 : s ≤ 2147483647) (t1 : -2147483648 ≤ t) (t2 : t ≤ 2147483647) (m1 : -2147483648 ≤ m) (m2 : m ≤ 2147483647) (u1 : -2147483648 ≤ u) (u2 : u ≤ 2147483647)
    (hxy : x = y) (hz : z < 0) (hp : y < z) (hs : s ≤ t) (hm : 0 ≤ z → m ≤ u)
    (E1 : Hid (bnd (x + z) = s)) (E2 : Hid (bnd (y + z) = t)) (E3 : Hid (bnd (fl (x * z) 256) = m)) (E4 : Hid (bnd (fl (y * z) 256) = u)) :
    Calls Try.prog 12 #[.int .i32 x, .int .i32 y, .int .i32 z] w fun e w' => e = .returned (.bool true) ∧ w = w' := by
  clear hm
  have K1 : Hid (wit z x y = y) := Lib.hid (by unfold wit; (repeat' split) <;> omega)
  have K2 : Hid (wit y x y = y) := Lib.hid (by unfold wit; (repeat' split) <;> omega)
  subst hxy
  go_enter Try.func12, Try.ntmps12
  go_wp2_with fail
  refine (fixedAddAt x z s _ (by omega) (by omega) (by omega) (by omega) E1.out).mono ?_
  rintro e w' ⟨rfl, rfl⟩
  go_wp2_with fail
  refine (fixedAddAt z x s _ (by omega) (by omega) (by omega) (by omega) (by rw [Int.add_comm]; exact E1.out)).mono ?_
  rintro e w' ⟨rfl, rfl⟩
  go_wp2_with fail
  refine (fixedMulAt x z m _ (by omega) (by omega) (by omega) (by omega) E3.out).mono ?_
  rintro e w' ⟨rfl, rfl⟩
  go_wp2_with fail
  refine (fixedMulAt z x m _ (by omega) (by omega) (by omega) (by omega) (by rw [Int.mul_comm]; exact E3.out)).mono ?_
  rintro e w' ⟨rfl, rfl⟩
  go_wp2_with fail
  refine (fixedAddAt x z s _ (by omega) (by omega) (by omega) (by omega) E1.out).mono ?_
  rintro e w' ⟨rfl, rfl⟩
  go_wp2_with fail
  refine (fixedAddAt x z t _ (by omega) (by omega) (by omega) (by omega) E2.out).mono ?_
  rintro e w' ⟨rfl, rfl⟩
  go_wp2_with fail
  refine (fixedClampAt z x x x _ K1.out).mono ?_
  rintro e w' ⟨rfl, rfl⟩
  go_wp2_with fail
  refine (fixedClampAt x x x x _ K2.out).mono ?_
  rintro e w' ⟨rfl, rfl⟩
  go_wp2_with fail
  refine (awake _).mono ?_
  rintro e w' ⟨rfl, rfl⟩
  go_wp2
  go_ret
  exact ⟨rfl, rfl⟩

set_option maxHeartbeats 800000 in
theorem orderEmidP (x y z s t m u : Int) (w : World) (x1 : -2147483648 ≤ x) (x2 : x ≤ 2147483647) (y1 : -2147483648 ≤ y) (y2 : y ≤ 2147483647) (z1 : -2147483648 ≤ z) (z2 : z ≤ 2147483647) (s1 : -2147483648 ≤ s) (s2 : s ≤ 2147483647) (t1 : -2147483648 ≤ t) (t2 : t ≤ 2147483647) (m1 : -2147483648 ≤ m) (m2 : m ≤ 2147483647) (u1 : -2147483648 ≤ u) (u2 : u ≤ 2147483647)
    (hxy : x = y) (hz : 0 ≤ z) (hp : x ≤ z ∧ z ≤ y) (hs : s ≤ t) (hm : 0 ≤ z → m ≤ u)
    (E1 : Hid (bnd (x + z) = s)) (E2 : Hid (bnd (y + z) = t)) (E3 : Hid (bnd (fl (x * z) 256) = m)) (E4 : Hid (bnd (fl (y * z) 256) = u)) :
    Calls Try.prog 12 #[.int .i32 x, .int .i32 y, .int .i32 z] w fun e w' => e = .returned (.bool true) ∧ w = w' := by
  obtain ⟨hp1, hp2⟩ := hp
  have hm' := hm hz
  clear hm
  have K1 : Hid (wit z x y = z) := Lib.hid (by unfold wit; (repeat' split) <;> omega)
  have K2 : Hid (wit z x y = z) := Lib.hid (by unfold wit; (repeat' split) <;> omega)
  subst hxy
  obtain rfl : x = z := by omega
  go_enter Try.func12, Try.ntmps12
  go_wp2_with fail
  refine (fixedAddAt x x s _ (by omega) (by omega) (by omega) (by omega) E1.out).mono ?_
  rintro e w' ⟨rfl, rfl⟩
  go_wp2_with fail
  refine (fixedAddAt x x s _ (by omega) (by omega) (by omega) (by omega) (by rw [Int.add_comm]; exact E1.out)).mono ?_
  rintro e w' ⟨rfl, rfl⟩
  go_wp2_with fail
  refine (fixedMulAt x x m _ (by omega) (by omega) (by omega) (by omega) E3.out).mono ?_
  rintro e w' ⟨rfl, rfl⟩
  go_wp2_with fail
  refine (fixedMulAt x x m _ (by omega) (by omega) (by omega) (by omega) (by rw [Int.mul_comm]; exact E3.out)).mono ?_
  rintro e w' ⟨rfl, rfl⟩
  go_wp2_with fail
  refine (fixedAddAt x x s _ (by omega) (by omega) (by omega) (by omega) E1.out).mono ?_
  rintro e w' ⟨rfl, rfl⟩
  go_wp2_with fail
  refine (fixedAddAt x x t _ (by omega) (by omega) (by omega) (by omega) E2.out).mono ?_
  rintro e w' ⟨rfl, rfl⟩
  go_wp2_with fail
  refine (fixedMulAt x x m _ (by omega) (by omega) (by omega) (by omega) E3.out).mono ?_
  rintro e w' ⟨rfl, rfl⟩
  go_wp2_with fail
  refine (fixedMulAt x x u _ (by omega) (by omega) (by omega) (by omega) E4.out).mono ?_
  rintro e w' ⟨rfl, rfl⟩
  go_wp2_with fail
  refine (fixedClampAt x x x x _ K1.out).mono ?_
  rintro e w' ⟨rfl, rfl⟩
  go_wp2_with fail
  refine (fixedClampAt x x x x _ K2.out).mono ?_
  rintro e w' ⟨rfl, rfl⟩
  go_wp2_with fail
  refine (awake _).mono ?_
  rintro e w' ⟨rfl, rfl⟩
  go_wp2
  go_ret
  exact ⟨rfl, rfl⟩

set_option maxHeartbeats 800000 in
theorem orderEmidM (x y z s t m u : Int) (w : World) (x1 : -2147483648 ≤ x) (x2 : x ≤ 2147483647) (y1 : -2147483648 ≤ y) (y2 : y ≤ 2147483647) (z1 : -2147483648 ≤ z) (z2 : z ≤ 2147483647) (s1 : -2147483648 ≤ s) (s2 : s ≤ 2147483647) (t1 : -2147483648 ≤ t) (t2 : t ≤ 2147483647) (m1 : -2147483648 ≤ m) (m2 : m ≤ 2147483647) (u1 : -2147483648 ≤ u) (u2 : u ≤ 2147483647)
    (hxy : x = y) (hz : z < 0) (hp : x ≤ z ∧ z ≤ y) (hs : s ≤ t) (hm : 0 ≤ z → m ≤ u)
    (E1 : Hid (bnd (x + z) = s)) (E2 : Hid (bnd (y + z) = t)) (E3 : Hid (bnd (fl (x * z) 256) = m)) (E4 : Hid (bnd (fl (y * z) 256) = u)) :
    Calls Try.prog 12 #[.int .i32 x, .int .i32 y, .int .i32 z] w fun e w' => e = .returned (.bool true) ∧ w = w' := by
  obtain ⟨hp1, hp2⟩ := hp
  clear hm
  have K1 : Hid (wit z x y = z) := Lib.hid (by unfold wit; (repeat' split) <;> omega)
  have K2 : Hid (wit z x y = z) := Lib.hid (by unfold wit; (repeat' split) <;> omega)
  subst hxy
  obtain rfl : x = z := by omega
  go_enter Try.func12, Try.ntmps12
  go_wp2_with fail
  refine (fixedAddAt x x s _ (by omega) (by omega) (by omega) (by omega) E1.out).mono ?_
  rintro e w' ⟨rfl, rfl⟩
  go_wp2_with fail
  refine (fixedAddAt x x s _ (by omega) (by omega) (by omega) (by omega) (by rw [Int.add_comm]; exact E1.out)).mono ?_
  rintro e w' ⟨rfl, rfl⟩
  go_wp2_with fail
  refine (fixedMulAt x x m _ (by omega) (by omega) (by omega) (by omega) E3.out).mono ?_
  rintro e w' ⟨rfl, rfl⟩
  go_wp2_with fail
  refine (fixedMulAt x x m _ (by omega) (by omega) (by omega) (by omega) (by rw [Int.mul_comm]; exact E3.out)).mono ?_
  rintro e w' ⟨rfl, rfl⟩
  go_wp2_with fail
  refine (fixedAddAt x x s _ (by omega) (by omega) (by omega) (by omega) E1.out).mono ?_
  rintro e w' ⟨rfl, rfl⟩
  go_wp2_with fail
  refine (fixedAddAt x x t _ (by omega) (by omega) (by omega) (by omega) E2.out).mono ?_
  rintro e w' ⟨rfl, rfl⟩
  go_wp2_with fail
  refine (fixedClampAt x x x x _ K1.out).mono ?_
  rintro e w' ⟨rfl, rfl⟩
  go_wp2_with fail
  refine (fixedClampAt x x x x _ K2.out).mono ?_
  rintro e w' ⟨rfl, rfl⟩
  go_wp2_with fail
  refine (awake _).mono ?_
  rintro e w' ⟨rfl, rfl⟩
  go_wp2
  go_ret
  exact ⟨rfl, rfl⟩

theorem lawFixedOrder (a b c : Int) (w : World) (a1 : -2147483648 ≤ a) (a2 : a ≤ 2147483647) (b1 : -2147483648 ≤ b) (b2 : b ≤ 2147483647) (c1 : -2147483648 ≤ c) (c2 : c ≤ 2147483647) :
    Calls Try.prog 12 #[.int .i32 a, .int .i32 b, .int .i32 c] w fun e w' => e = .returned (.bool true) ∧ w = w' := by
  rcases (by omega : a < b ∨ b < a ∨ a = b) with hs | hs | hs <;> rcases (by omega : 0 ≤ c ∨ c < 0) with hz | hz
  · rcases (by omega : c < a ∨ b < c ∨ (a ≤ c ∧ c ≤ b)) with hp | hp | hp
    · exact orderNloP a b c _ _ _ _ w a1 a2 b1 b2 c1 c2 (bnd_range _).1 (bnd_range _).2 (bnd_range _).1 (bnd_range _).2 (bnd_range _).1 (bnd_range _).2 (bnd_range _).1 (bnd_range _).2 hs hz hp (bnd_mono (by omega)) (fun h => bnd_mono (fl_mono (Int.mul_le_mul_of_nonneg_right (by omega) h))) (Lib.hid rfl) (Lib.hid rfl) (Lib.hid rfl) (Lib.hid rfl)
    · exact orderNhiP a b c _ _ _ _ w a1 a2 b1 b2 c1 c2 (bnd_range _).1 (bnd_range _).2 (bnd_range _).1 (bnd_range _).2 (bnd_range _).1 (bnd_range _).2 (bnd_range _).1 (bnd_range _).2 hs hz hp (bnd_mono (by omega)) (fun h => bnd_mono (fl_mono (Int.mul_le_mul_of_nonneg_right (by omega) h))) (Lib.hid rfl) (Lib.hid rfl) (Lib.hid rfl) (Lib.hid rfl)
    · exact orderNmidP a b c _ _ _ _ w a1 a2 b1 b2 c1 c2 (bnd_range _).1 (bnd_range _).2 (bnd_range _).1 (bnd_range _).2 (bnd_range _).1 (bnd_range _).2 (bnd_range _).1 (bnd_range _).2 hs hz hp (bnd_mono (by omega)) (fun h => bnd_mono (fl_mono (Int.mul_le_mul_of_nonneg_right (by omega) h))) (Lib.hid rfl) (Lib.hid rfl) (Lib.hid rfl) (Lib.hid rfl)
  · rcases (by omega : c < a ∨ b < c ∨ (a ≤ c ∧ c ≤ b)) with hp | hp | hp
    · exact orderNloM a b c _ _ _ _ w a1 a2 b1 b2 c1 c2 (bnd_range _).1 (bnd_range _).2 (bnd_range _).1 (bnd_range _).2 (bnd_range _).1 (bnd_range _).2 (bnd_range _).1 (bnd_range _).2 hs hz hp (bnd_mono (by omega)) (fun h => bnd_mono (fl_mono (Int.mul_le_mul_of_nonneg_right (by omega) h))) (Lib.hid rfl) (Lib.hid rfl) (Lib.hid rfl) (Lib.hid rfl)
    · exact orderNhiM a b c _ _ _ _ w a1 a2 b1 b2 c1 c2 (bnd_range _).1 (bnd_range _).2 (bnd_range _).1 (bnd_range _).2 (bnd_range _).1 (bnd_range _).2 (bnd_range _).1 (bnd_range _).2 hs hz hp (bnd_mono (by omega)) (fun h => bnd_mono (fl_mono (Int.mul_le_mul_of_nonneg_right (by omega) h))) (Lib.hid rfl) (Lib.hid rfl) (Lib.hid rfl) (Lib.hid rfl)
    · exact orderNmidM a b c _ _ _ _ w a1 a2 b1 b2 c1 c2 (bnd_range _).1 (bnd_range _).2 (bnd_range _).1 (bnd_range _).2 (bnd_range _).1 (bnd_range _).2 (bnd_range _).1 (bnd_range _).2 hs hz hp (bnd_mono (by omega)) (fun h => bnd_mono (fl_mono (Int.mul_le_mul_of_nonneg_right (by omega) h))) (Lib.hid rfl) (Lib.hid rfl) (Lib.hid rfl) (Lib.hid rfl)
  · rcases (by omega : c < b ∨ a < c ∨ (b ≤ c ∧ c ≤ a)) with hp | hp | hp
    · exact orderSloP b a c _ _ _ _ w b1 b2 a1 a2 c1 c2 (bnd_range _).1 (bnd_range _).2 (bnd_range _).1 (bnd_range _).2 (bnd_range _).1 (bnd_range _).2 (bnd_range _).1 (bnd_range _).2 hs hz hp (bnd_mono (by omega)) (fun h => bnd_mono (fl_mono (Int.mul_le_mul_of_nonneg_right (by omega) h))) (Lib.hid rfl) (Lib.hid rfl) (Lib.hid rfl) (Lib.hid rfl)
    · exact orderShiP b a c _ _ _ _ w b1 b2 a1 a2 c1 c2 (bnd_range _).1 (bnd_range _).2 (bnd_range _).1 (bnd_range _).2 (bnd_range _).1 (bnd_range _).2 (bnd_range _).1 (bnd_range _).2 hs hz hp (bnd_mono (by omega)) (fun h => bnd_mono (fl_mono (Int.mul_le_mul_of_nonneg_right (by omega) h))) (Lib.hid rfl) (Lib.hid rfl) (Lib.hid rfl) (Lib.hid rfl)
    · exact orderSmidP b a c _ _ _ _ w b1 b2 a1 a2 c1 c2 (bnd_range _).1 (bnd_range _).2 (bnd_range _).1 (bnd_range _).2 (bnd_range _).1 (bnd_range _).2 (bnd_range _).1 (bnd_range _).2 hs hz hp (bnd_mono (by omega)) (fun h => bnd_mono (fl_mono (Int.mul_le_mul_of_nonneg_right (by omega) h))) (Lib.hid rfl) (Lib.hid rfl) (Lib.hid rfl) (Lib.hid rfl)
  · rcases (by omega : c < b ∨ a < c ∨ (b ≤ c ∧ c ≤ a)) with hp | hp | hp
    · exact orderSloM b a c _ _ _ _ w b1 b2 a1 a2 c1 c2 (bnd_range _).1 (bnd_range _).2 (bnd_range _).1 (bnd_range _).2 (bnd_range _).1 (bnd_range _).2 (bnd_range _).1 (bnd_range _).2 hs hz hp (bnd_mono (by omega)) (fun h => bnd_mono (fl_mono (Int.mul_le_mul_of_nonneg_right (by omega) h))) (Lib.hid rfl) (Lib.hid rfl) (Lib.hid rfl) (Lib.hid rfl)
    · exact orderShiM b a c _ _ _ _ w b1 b2 a1 a2 c1 c2 (bnd_range _).1 (bnd_range _).2 (bnd_range _).1 (bnd_range _).2 (bnd_range _).1 (bnd_range _).2 (bnd_range _).1 (bnd_range _).2 hs hz hp (bnd_mono (by omega)) (fun h => bnd_mono (fl_mono (Int.mul_le_mul_of_nonneg_right (by omega) h))) (Lib.hid rfl) (Lib.hid rfl) (Lib.hid rfl) (Lib.hid rfl)
    · exact orderSmidM b a c _ _ _ _ w b1 b2 a1 a2 c1 c2 (bnd_range _).1 (bnd_range _).2 (bnd_range _).1 (bnd_range _).2 (bnd_range _).1 (bnd_range _).2 (bnd_range _).1 (bnd_range _).2 hs hz hp (bnd_mono (by omega)) (fun h => bnd_mono (fl_mono (Int.mul_le_mul_of_nonneg_right (by omega) h))) (Lib.hid rfl) (Lib.hid rfl) (Lib.hid rfl) (Lib.hid rfl)
  · rcases (by omega : c < a ∨ b < c ∨ (a ≤ c ∧ c ≤ b)) with hp | hp | hp
    · exact orderEloP a b c _ _ _ _ w a1 a2 b1 b2 c1 c2 (bnd_range _).1 (bnd_range _).2 (bnd_range _).1 (bnd_range _).2 (bnd_range _).1 (bnd_range _).2 (bnd_range _).1 (bnd_range _).2 hs hz hp (bnd_mono (by omega)) (fun h => bnd_mono (fl_mono (Int.mul_le_mul_of_nonneg_right (by omega) h))) (Lib.hid rfl) (Lib.hid rfl) (Lib.hid rfl) (Lib.hid rfl)
    · exact orderEhiP a b c _ _ _ _ w a1 a2 b1 b2 c1 c2 (bnd_range _).1 (bnd_range _).2 (bnd_range _).1 (bnd_range _).2 (bnd_range _).1 (bnd_range _).2 (bnd_range _).1 (bnd_range _).2 hs hz hp (bnd_mono (by omega)) (fun h => bnd_mono (fl_mono (Int.mul_le_mul_of_nonneg_right (by omega) h))) (Lib.hid rfl) (Lib.hid rfl) (Lib.hid rfl) (Lib.hid rfl)
    · exact orderEmidP a b c _ _ _ _ w a1 a2 b1 b2 c1 c2 (bnd_range _).1 (bnd_range _).2 (bnd_range _).1 (bnd_range _).2 (bnd_range _).1 (bnd_range _).2 (bnd_range _).1 (bnd_range _).2 hs hz hp (bnd_mono (by omega)) (fun h => bnd_mono (fl_mono (Int.mul_le_mul_of_nonneg_right (by omega) h))) (Lib.hid rfl) (Lib.hid rfl) (Lib.hid rfl) (Lib.hid rfl)
  · rcases (by omega : c < a ∨ b < c ∨ (a ≤ c ∧ c ≤ b)) with hp | hp | hp
    · exact orderEloM a b c _ _ _ _ w a1 a2 b1 b2 c1 c2 (bnd_range _).1 (bnd_range _).2 (bnd_range _).1 (bnd_range _).2 (bnd_range _).1 (bnd_range _).2 (bnd_range _).1 (bnd_range _).2 hs hz hp (bnd_mono (by omega)) (fun h => bnd_mono (fl_mono (Int.mul_le_mul_of_nonneg_right (by omega) h))) (Lib.hid rfl) (Lib.hid rfl) (Lib.hid rfl) (Lib.hid rfl)
    · exact orderEhiM a b c _ _ _ _ w a1 a2 b1 b2 c1 c2 (bnd_range _).1 (bnd_range _).2 (bnd_range _).1 (bnd_range _).2 (bnd_range _).1 (bnd_range _).2 (bnd_range _).1 (bnd_range _).2 hs hz hp (bnd_mono (by omega)) (fun h => bnd_mono (fl_mono (Int.mul_le_mul_of_nonneg_right (by omega) h))) (Lib.hid rfl) (Lib.hid rfl) (Lib.hid rfl) (Lib.hid rfl)
    · exact orderEmidM a b c _ _ _ _ w a1 a2 b1 b2 c1 c2 (bnd_range _).1 (bnd_range _).2 (bnd_range _).1 (bnd_range _).2 (bnd_range _).1 (bnd_range _).2 (bnd_range _).1 (bnd_range _).2 hs hz hp (bnd_mono (by omega)) (fun h => bnd_mono (fl_mono (Int.mul_le_mul_of_nonneg_right (by omega) h))) (Lib.hid rfl) (Lib.hid rfl) (Lib.hid rfl) (Lib.hid rfl)
end Go.Proofs.Ytcaolnhlihkppaa
