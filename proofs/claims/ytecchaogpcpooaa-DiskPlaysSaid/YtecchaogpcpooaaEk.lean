/- The document's acts: their. -/
import Derived.Test.YtecchaogpcpooaaEj
namespace Go.Proofs.Ytecchaogpcpooaa
open Go.RowKit Go.Shelf
set_option linter.unusedVariables false
set_option linter.unusedSimpArgs false
set_option maxRecDepth 100000

set_option maxHeartbeats 1000000 in
theorem their_c {S : Nat → Prop} {g : Nat} {q : Nat} {E : List Ent} (a : Act2) (w : World) (h : RkS S w (.pointer (some ⟨g, 0, none⟩)) q E) (hS : ∀ x, w.heap.size ≤ x → S x) (ha : a.ok w) (hk : ∀ x, a.ko = some x → a.ks ≠ [] → ¬ S x.block) :
    Calls Try.prog 12 #[.pointer (some ⟨g, 0, none⟩), .agg a.cs] w fun R w' => ∃ v', R = .returned (.tuple #[v', .int .i64 (actR a q E : Nat)]) ∧ RkS S w' v' q (actE a q E) ∧ Tu S w w' := by
  obtain ⟨k, hk8, hc⟩ : ∃ k, k < 8 ∧ a.c % 8 = k := ⟨_, Nat.mod_lt _ (by decide), rfl⟩
  have hR : Hid (actR a q E = actRk k a q E) := by show _ = _; unfold actR; rw [hc]
  have hE : Hid (actE a q E = actEk k a q E) := by show _ = _; unfold actE; rw [hc]
  have hci : (a.c : Int) % 8 = (k : Int) := by rw [← hc]; rfl
  have hcl := ha.c
  have HA := Lib.hid ha
  have HK := Lib.hid hk
  clear ha hk
  have hal : Below w.heap.size w (w.alloc (.cells #[.int .u8 (a.c : Int), .string (str a.n), .string (str a.t), .string (str a.b), .slice a.ko a.ks.length a.kc] 33)) := below_alloc w _
  have HW := Lib.hid hal
  have HD := Lib.hid (h.new hal)
  have HSS : Hid (∀ x, (w.alloc (.cells #[.int .u8 (a.c : Int), .string (str a.n), .string (str a.t), .string (str a.b), .slice a.ko a.ks.length a.kc] 33)).heap.size ≤ x → S x) := fun x hx => hS x (Nat.le_trans hal.size hx)
  have HSW := Lib.hid hS
  clear h hal hS
  obtain ⟨ro, rcap, hrk⟩ := HD.out.of
  have HD2 := Lib.hid hrk
  clear hrk
  unfold Act2.cs
  have h8 : k = 0 ∨ k = 1 ∨ k = 2 ∨ k = 3 ∨ k = 4 ∨ k = 5 ∨ k = 6 ∨ k = 7 := by omega
  rcases h8 with rfl | rfl | rfl | rfl | rfl | rfl | rfl | rfl
  · rw [hR.out, hE.out]
    dsimp only [actRk, actEk]
    clear hR hE hc hk8
    go_enter Try.func12, Try.ntmps12
    go_wp2_with fail
    refine (rappend_c HD2.out a.n a.b HA.out.n HA.out.b).mono ?_
    rintro R w1 ⟨rfl, hd, ht⟩
    have HD1 := Lib.hid hd
    have HT1 := Lib.hid ht
    clear hd ht
    go_wp2
    go_ret2
    exact ⟨_, rfl, HD1.out, (Tu.new HW.out).trans HT1.out (fun _ _ h => h)⟩
  · rw [hR.out, hE.out]
    dsimp only [actRk, actEk]
    clear hR hE hc hk8
    go_enter Try.func12, Try.ntmps12
    go_wp2_with fail
    refine (rappend_c HD2.out a.n a.b HA.out.n HA.out.b).mono ?_
    rintro R w1 ⟨rfl, hd, ht⟩
    have HD1 := Lib.hid hd
    have HT1 := Lib.hid ht
    clear hd ht
    go_wp2
    go_ret2
    exact ⟨_, rfl, HD1.out, (Tu.new HW.out).trans HT1.out (fun _ _ h => h)⟩
  · rw [hR.out, hE.out]
    dsimp only [actRk, actEk]
    clear hR hE hc hk8
    go_enter Try.func12, Try.ntmps12
    go_wp2_with fail
    refine (rcreate_c HD2.out HSS.out a.n HA.out.n).mono ?_
    rintro R w1 ⟨rfl, hd, ht⟩
    have HD1 := Lib.hid hd
    have HT1 := Lib.hid ht
    clear hd ht
    go_wp2
    go_ret2
    exact ⟨_, rfl, HD1.out, (Tu.new HW.out).trans HT1.out (fun _ _ h => h)⟩
  · rw [hR.out, hE.out]
    dsimp only [actRk, actEk]
    clear hR hE hc hk8
    go_enter Try.func12, Try.ntmps12
    go_wp2_with fail
    refine (rsync_c HD2.out a.n HA.out.n).mono ?_
    rintro R w1 ⟨rfl, hd, ht⟩
    have HD1 := Lib.hid hd
    have HT1 := Lib.hid ht
    clear hd ht
    go_wp2
    go_ret2
    exact ⟨_, rfl, HD1.out, (Tu.new HW.out).trans HT1.out (fun _ _ h => h)⟩
  · rw [hR.out, hE.out]
    dsimp only [actRk, actEk]
    clear hR hE hc hk8
    go_enter Try.func12, Try.ntmps12
    go_wp2_with fail
    refine (rrename_c HD2.out HSS.out a.n a.t HA.out.n HA.out.t).mono ?_
    rintro R w1 ⟨rfl, hd, ht⟩
    have HD1 := Lib.hid hd
    have HT1 := Lib.hid ht
    clear hd ht
    go_wp2
    go_ret2
    exact ⟨_, rfl, HD1.out, (Tu.new HW.out).trans HT1.out (fun _ _ h => h)⟩
  · rw [hR.out, hE.out]
    dsimp only [actRk, actEk]
    clear hR hE hc hk8
    go_enter Try.func12, Try.ntmps12
    go_wp2_with fail
    refine (rremove_c HD2.out HSS.out a.n HA.out.n).mono ?_
    rintro R w1 ⟨rfl, hd, ht⟩
    have HD1 := Lib.hid hd
    have HT1 := Lib.hid ht
    clear hd ht
    go_wp2
    go_ret2
    exact ⟨_, rfl, HD1.out, (Tu.new HW.out).trans HT1.out (fun _ _ h => h)⟩
  · rw [hR.out, hE.out]
    dsimp only [actRk, actEk]
    clear hR hE hc hk8
    go_enter Try.func12, Try.ntmps12
    go_wp2_with fail
    refine (rcrash_c HD2.out (HA.out.i.tu (S := fun _ => False) (.new HW.out) (fun _ _ h => h)) HA.out.k (fun x hx hn => HK.out x hx hn)).mono ?_
    rintro R w1 ⟨rfl, hd, ht⟩
    have HD1 := Lib.hid hd
    have HT1 := Lib.hid ht
    clear hd ht
    go_wp2
    go_ret2
    exact ⟨_, rfl, HD1.out, (Tu.new HW.out).trans HT1.out (fun _ _ h => h)⟩
  · rw [hR.out, hE.out]
    dsimp only [actRk, actEk]
    clear hR hE hc hk8
    go_enter Try.func12, Try.ntmps12
    go_wp2_with fail
    refine (rcopy_c HD2.out).mono ?_
    rintro R w1 ⟨v', rfl, hd, hb⟩
    have HD1 := Lib.hid hd
    have HB1 := Lib.hid hb
    clear hd hb
    go_wp2
    go_ret2
    exact ⟨v', rfl, HD1.out.mono (fun x _ hx => HSS.out x hx), (Tu.new HW.out).trans (Tu.new (S := S) HB1.out) (fun _ _ h => h)⟩
end Go.Proofs.Ytecchaogpcpooaa
