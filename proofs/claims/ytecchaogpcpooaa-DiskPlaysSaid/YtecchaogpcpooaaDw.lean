/- One act on a disk. -/
import Derived.Test.YtecchaogpcpooaaDv
import Derived.Test.YtecchaogpcpooaaDj
namespace Go.Proofs.Ytecchaogpcpooaa
open Go.RowKit Go.Shelf
set_option linter.unusedVariables false
set_option linter.unusedSimpArgs false
set_option maxRecDepth 100000

/-- An act: what, name, to, bytes, keep. -/
structure Act2 where
  c : Nat
  n : List UInt8
  t : List UInt8
  b : List UInt8
  ko : Option Addr
  ks : List Int
  kc : Nat
def Act2.cs (a : Act2) : Array Value := #[.int .u8 (a.c : Int), .string (str a.n), .string (str a.t), .string (str a.b), .slice a.ko a.ks.length a.kc]
/-- It can be read, and is no longer than may be. -/
structure Act2.ok (w : World) (a : Act2) : Prop where
  c : a.c < 256
  n : a.n.length ≤ maxLen
  t : a.t.length ≤ maxLen
  b : a.b.length ≤ maxLen
  k : a.ks.length ≤ maxLen
  i : Ints w a.ko a.ks
  lo : ∀ x, a.ko = some x → a.ks ≠ [] → x.block < w.heap.size
def actRk (k : Nat) (a : Act2) (q : Nat) (E : List Ent) : Nat :=
  match k with
  | 0 | 1 => eAppend q E a.n a.b
  | 2 => eCreate E a.n
  | 3 => eFind E a.n
  | 4 => eRename E a.n a.t
  | 5 => eFind E a.n
  | _ => 0
def actEk (k : Nat) (a : Act2) (q : Nat) (E : List Ent) : List Ent :=
  match k with
  | 0 | 1 => aAppend q E a.n a.b
  | 2 => aCreate E a.n
  | 3 => aSync E a.n
  | 4 => aRename E a.n a.t
  | 5 => aRemove E a.n
  | 6 => aCrash a.ks E
  | _ => E
def actR (a : Act2) (q : Nat) (E : List Ent) : Nat := actRk (a.c % 8) a q E
def actE (a : Act2) (q : Nat) (E : List Ent) : List Ent := actEk (a.c % 8) a q E
def actN (a : Act2) : Nat := if a.c % 8 < 6 then 1 else 0
set_option maxHeartbeats 1000000 in
theorem do_c {S : Nat → Prop} {v : Value} {q : Nat} {E : List Ent} (a : Act2) (w : World) (h : DkS S w v q E) (hS : ∀ x, w.heap.size ≤ x → S x) (ha : a.ok w) (hk : ∀ x, a.ko = some x → a.ks ≠ [] → ¬ S x.block) :
    Calls Try.prog 11 #[v, .agg a.cs] w fun R w' => ∃ v', R = .returned (.tuple #[v', .int .i64 (actR a q E : Nat)]) ∧ DkS S w' v' q (actE a q E) ∧ Tu S w w' := by
  obtain ⟨k, hk8, hc⟩ : ∃ k, k < 8 ∧ a.c % 8 = k := ⟨_, Nat.mod_lt _ (by decide), rfl⟩
  have hR : Hid (actR a q E = actRk k a q E) := by show _ = _; unfold actR; rw [hc]
  have hE : Hid (actE a q E = actEk k a q E) := by show _ = _; unfold actE; rw [hc]
  have hci : (a.c : Int) % 8 = (k : Int) := by rw [← hc]; rfl
  have hcl := ha.c
  have HA := Lib.hid ha
  have HK := Lib.hid hk
  clear ha hk
  have hal : Below w.heap.size w (w.alloc (.cells #[.int .u8 (a.c : Int), .string (str a.n), .string (str a.t), .string (str a.b), .slice a.ko a.ks.length a.kc] 33)) := below_alloc w _
  have HW := Lib.hid hal
  have HD := Lib.hid (h.new hal)
  have HSS : Hid (∀ x, (w.alloc (.cells #[.int .u8 (a.c : Int), .string (str a.n), .string (str a.t), .string (str a.b), .slice a.ko a.ks.length a.kc] 33)).heap.size ≤ x → S x) := fun x hx => hS x (Nat.le_trans hal.size hx)
  have HSW := Lib.hid hS
  clear h hal hS
  unfold Act2.cs
  have h8 : k = 0 ∨ k = 1 ∨ k = 2 ∨ k = 3 ∨ k = 4 ∨ k = 5 ∨ k = 6 ∨ k = 7 := by omega
  rcases h8 with rfl | rfl | rfl | rfl | rfl | rfl | rfl | rfl
  · rw [hR.out, hE.out]
    dsimp only [actRk, actEk]
    clear hR hE hc hk8
    go_enter Try.func11, Try.ntmps11
    go_wp2_with fail
    refine (append_c a.n a.b _ HD.out HSS.out HA.out.n HA.out.b).mono ?_
    rintro R w1 ⟨rfl, hd, ht⟩
    have HD1 := Lib.hid hd
    have HT1 := Lib.hid ht
    clear hd ht
    go_wp2
    go_ret2
    exact ⟨v, rfl, HD1.out, (Tu.new HW.out).trans HT1.out (fun _ _ h => h)⟩
  · rw [hR.out, hE.out]
    dsimp only [actRk, actEk]
    clear hR hE hc hk8
    go_enter Try.func11, Try.ntmps11
    go_wp2_with fail
    refine (append_c a.n a.b _ HD.out HSS.out HA.out.n HA.out.b).mono ?_
    rintro R w1 ⟨rfl, hd, ht⟩
    have HD1 := Lib.hid hd
    have HT1 := Lib.hid ht
    clear hd ht
    go_wp2
    go_ret2
    exact ⟨v, rfl, HD1.out, (Tu.new HW.out).trans HT1.out (fun _ _ h => h)⟩
  · rw [hR.out, hE.out]
    dsimp only [actRk, actEk]
    clear hR hE hc hk8
    go_enter Try.func11, Try.ntmps11
    go_wp2_with fail
    refine (create_c a.n _ HD.out HSS.out HA.out.n).mono ?_
    rintro R w1 ⟨rfl, hd, ht⟩
    have HD1 := Lib.hid hd
    have HT1 := Lib.hid ht
    clear hd ht
    go_wp2
    go_ret2
    exact ⟨v, rfl, HD1.out, (Tu.new HW.out).trans HT1.out (fun _ _ h => h)⟩
  · rw [hR.out, hE.out]
    dsimp only [actRk, actEk]
    clear hR hE hc hk8
    go_enter Try.func11, Try.ntmps11
    go_wp2_with fail
    refine (sync_c a.n _ HD.out HA.out.n).mono ?_
    rintro R w1 ⟨rfl, hd, ht⟩
    have HD1 := Lib.hid hd
    have HT1 := Lib.hid ht
    clear hd ht
    go_wp2
    go_ret2
    exact ⟨v, rfl, HD1.out, (Tu.new HW.out).trans HT1.out (fun _ _ h => h)⟩
  · rw [hR.out, hE.out]
    dsimp only [actRk, actEk]
    clear hR hE hc hk8
    go_enter Try.func11, Try.ntmps11
    go_wp2_with fail
    refine (rename_c a.n a.t _ HD.out HA.out.n HA.out.t).mono ?_
    rintro R w1 ⟨rfl, hd, ht⟩
    have HD1 := Lib.hid hd
    have HT1 := Lib.hid ht
    clear hd ht
    go_wp2
    go_ret2
    exact ⟨v, rfl, HD1.out, (Tu.new HW.out).trans HT1.out (fun _ _ h => h)⟩
  · rw [hR.out, hE.out]
    dsimp only [actRk, actEk]
    clear hR hE hc hk8
    go_enter Try.func11, Try.ntmps11
    go_wp2_with fail
    refine (remove_c a.n _ HD.out HA.out.n).mono ?_
    rintro R w1 ⟨rfl, hd, ht⟩
    have HD1 := Lib.hid hd
    have HT1 := Lib.hid ht
    clear hd ht
    go_wp2
    go_ret2
    exact ⟨v, rfl, HD1.out, (Tu.new HW.out).trans HT1.out (fun _ _ h => h)⟩
  · rw [hR.out, hE.out]
    dsimp only [actRk, actEk]
    clear hR hE hc hk8
    go_enter Try.func11, Try.ntmps11
    go_wp2_with fail
    refine (crash_s _ HD.out (HA.out.i.tu (S := fun _ => False) (.new HW.out) (fun _ _ h => h)) HA.out.k (fun x hx hn => ⟨HK.out x hx hn, Nat.lt_of_lt_of_le (HA.out.lo x hx hn) HW.out.size⟩)).mono ?_
    rintro R w1 ⟨rfl, hd, ht⟩
    have HD1 := Lib.hid hd
    have HT1 := Lib.hid ht
    clear hd ht
    go_wp2
    go_ret2
    exact ⟨v, rfl, HD1.out, (Tu.new HW.out).trans HT1.out (fun _ _ h => h)⟩
  · rw [hR.out, hE.out]
    dsimp only [actRk, actEk]
    clear hR hE hc hk8
    go_enter Try.func11, Try.ntmps11
    go_wp2_with fail
    refine (copy_c _ HD.out).mono ?_
    rintro R w1 ⟨v', rfl, hd, hb⟩
    have HD1 := Lib.hid hd
    have HB1 := Lib.hid hb
    clear hd hb
    go_wp2
    go_ret2
    exact ⟨v', rfl, HD1.out.mono (fun x _ hx => HSS.out x hx), (Tu.new HW.out).trans (Tu.new (S := S) HB1.out) (fun _ _ h => h)⟩
set_option maxHeartbeats 1000000 in
theorem do_nil (a : Act2) (w : World) (ha : a.ok w) :
    Calls Try.prog 11 #[.pointer none, .agg a.cs] w fun R w' => R = .returned (.tuple #[.pointer none, .int .i64 (actN a : Nat)]) ∧ Below w.heap.size w w' := by
  obtain ⟨k, hk8, hc⟩ : ∃ k, k < 8 ∧ a.c % 8 = k := ⟨_, Nat.mod_lt _ (by decide), rfl⟩
  have hR : Hid (actN a = if k < 6 then 1 else 0) := by show _ = _; unfold actN; rw [hc]
  have hci : (a.c : Int) % 8 = (k : Int) := by rw [← hc]; rfl
  have hcl := ha.c
  have HA := Lib.hid ha
  clear ha
  have hal : Below w.heap.size w (w.alloc (.cells #[.int .u8 (a.c : Int), .string (str a.n), .string (str a.t), .string (str a.b), .slice a.ko a.ks.length a.kc] 33)) := below_alloc w _
  have HW := Lib.hid hal
  clear hal
  unfold Act2.cs
  have h8 : k = 0 ∨ k = 1 ∨ k = 2 ∨ k = 3 ∨ k = 4 ∨ k = 5 ∨ k = 6 ∨ k = 7 := by omega
  rcases h8 with rfl | rfl | rfl | rfl | rfl | rfl | rfl | rfl
  · rw [hR.out]
    simp only [Nat.reduceLT, ite_true, ite_false]
    clear hR hc hk8
    go_enter Try.func11, Try.ntmps11
    go_wp2_with fail
    refine (append_nil _ a.n a.b _ (.inl rfl)).mono ?_
    rintro R w1 ⟨rfl, hb⟩
    have HB1 := Lib.hid hb
    clear hb
    go_wp2
    go_ret2
    exact ⟨rfl, HW.out.trans (HB1.out.mono HW.out.size)⟩
  · rw [hR.out]
    simp only [Nat.reduceLT, ite_true, ite_false]
    clear hR hc hk8
    go_enter Try.func11, Try.ntmps11
    go_wp2_with fail
    refine (append_nil _ a.n a.b _ (.inl rfl)).mono ?_
    rintro R w1 ⟨rfl, hb⟩
    have HB1 := Lib.hid hb
    clear hb
    go_wp2
    go_ret2
    exact ⟨rfl, HW.out.trans (HB1.out.mono HW.out.size)⟩
  · rw [hR.out]
    simp only [Nat.reduceLT, ite_true, ite_false]
    clear hR hc hk8
    go_enter Try.func11, Try.ntmps11
    go_wp2_with fail
    refine (create_nil _ a.n _ (.inl rfl)).mono ?_
    rintro R w1 ⟨rfl, hb⟩
    have HB1 := Lib.hid hb
    clear hb
    go_wp2
    go_ret2
    exact ⟨rfl, HW.out.trans (HB1.out.mono HW.out.size)⟩
  · rw [hR.out]
    simp only [Nat.reduceLT, ite_true, ite_false]
    clear hR hc hk8
    go_enter Try.func11, Try.ntmps11
    go_wp2_with fail
    refine (sync_nil _ a.n _ (.inl rfl)).mono ?_
    rintro R w1 ⟨rfl, hb⟩
    have HB1 := Lib.hid hb
    clear hb
    go_wp2
    go_ret2
    exact ⟨rfl, HW.out.trans (HB1.out.mono HW.out.size)⟩
  · rw [hR.out]
    simp only [Nat.reduceLT, ite_true, ite_false]
    clear hR hc hk8
    go_enter Try.func11, Try.ntmps11
    go_wp2_with fail
    refine (rename_nil _ a.n a.t _ (.inl rfl)).mono ?_
    rintro R w1 ⟨rfl, hb⟩
    have HB1 := Lib.hid hb
    clear hb
    go_wp2
    go_ret2
    exact ⟨rfl, HW.out.trans (HB1.out.mono HW.out.size)⟩
  · rw [hR.out]
    simp only [Nat.reduceLT, ite_true, ite_false]
    clear hR hc hk8
    go_enter Try.func11, Try.ntmps11
    go_wp2_with fail
    refine (remove_nil _ a.n _ (.inl rfl)).mono ?_
    rintro R w1 ⟨rfl, hb⟩
    have HB1 := Lib.hid hb
    clear hb
    go_wp2
    go_ret2
    exact ⟨rfl, HW.out.trans (HB1.out.mono HW.out.size)⟩
  · rw [hR.out]
    simp only [Nat.reduceLT, ite_true, ite_false]
    clear hR hc hk8
    go_enter Try.func11, Try.ntmps11
    go_wp2_with fail
    refine (crash_nil _ (.inl rfl)).mono ?_
    rintro R w1 ⟨rfl, hb⟩
    have HB1 := Lib.hid hb
    clear hb
    go_wp2
    go_ret2
    exact ⟨rfl, HW.out.trans (HB1.out.mono HW.out.size)⟩
  · rw [hR.out]
    simp only [Nat.reduceLT, ite_true, ite_false]
    clear hR hc hk8
    go_enter Try.func11, Try.ntmps11
    go_wp2_with fail
    refine (copy_nil _ (.inl rfl)).mono ?_
    rintro R w1 ⟨rfl, hb⟩
    have HB1 := Lib.hid hb
    clear hb
    go_wp2
    go_ret2
    exact ⟨rfl, HW.out.trans (HB1.out.mono HW.out.size)⟩
end Go.Proofs.Ytecchaogpcpooaa
