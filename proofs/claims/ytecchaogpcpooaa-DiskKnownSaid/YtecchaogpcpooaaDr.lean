/- DiskKnown: the walk: forty calls, one behind the other. -/
import Derived.Test.YtecchaogpcpooaaDp
namespace Go.Proofs.Ytecchaogpcpooaa
open Go.RowKit Go.Shelf
set_option linter.unusedVariables false
set_option linter.unusedSimpArgs false
set_option maxRecDepth 100000

deriving instance DecidableEq for Ent
def a32 : List UInt8 := Lib.repeatL [97] 32
def e1 : Ent := ⟨[97], [49, 50, 51, 52, 53, 54, 55, 56, 57, 48], 3⟩
def e2 : Ent := ⟨a32, [], 0⟩
def e3 : Ent := ⟨[48, 46, 45, 122], [], 0⟩
def e4 : Ent := ⟨[98], [49, 50, 51, 52, 53, 54, 55, 56, 57, 48], 3⟩
/-- The full disk's names. -/
def fnm (i : Nat) : List UInt8 := [102, UInt8.ofNat (97 + i / 8), UInt8.ofNat (97 + i % 8)]
def ffs (i : Nat) : List Ent := (List.range i).map fun j => ⟨fnm j, [], 0⟩
theorem ffs_step : ∀ i, i < 64 → eCreate (ffs i) (fnm i) = 0 ∧ aCreate (ffs i) (fnm i) = ffs (i + 1) := by decide +kernel
theorem ffs_full : eCreate (ffs 64) [103] = 7 ∧ aCreate (ffs 64) [103] = ffs 64 := by decide +kernel
def ftl : List Ent := (ffs 64).tail
theorem ffs_cons : ffs 64 = ⟨[102, 97, 97], [], 0⟩ :: ftl := by decide +kernel
theorem ftl_used : used ftl = 0 := by decide +kernel
theorem ftl_fab : fnd [102, 97, 98] ftl = some ⟨[102, 97, 98], [], 0⟩ := by decide +kernel
theorem ftl_ne : ∀ y ∈ ftl, y.nm ≠ [102, 97, 97] := by decide +kernel
theorem ftl_set (x : List UInt8) : setE ⟨[102, 97, 97], x, 0⟩ ftl = ftl := by
  unfold setE
  conv => rhs; rw [← List.map_id ftl]
  exact List.map_congr_left fun y hy => if_neg (ftl_ne y hy)
theorem full_one (x : List UInt8) (h : x.length = 65536) : eAppend 1048576 (ffs 64) [102, 97, 97] x = 0 ∧ aAppend 1048576 (ffs 64) [102, 97, 97] x = ⟨[102, 97, 97], x, 0⟩ :: ftl := by
  have e : eAppend 1048576 (ffs 64) [102, 97, 97] x = 0 := by
    unfold eAppend
    rw [show isNm [102, 97, 97] = true by decide, ffs_cons, used_cons, ftl_used]
    simp [fndK, h]
  refine ⟨e, ?_⟩
  unfold aAppend
  rw [if_pos e, ffs_cons]
  have hs := ftl_set x
  simp only [setE] at hs
  simp [fndK, setE, hs]
theorem full_two (x : List UInt8) (h : x.length = 65536) : eAppend 1048576 (⟨[102, 97, 97], x, 0⟩ :: ftl) [102, 97, 97] [120] = 7 ∧ aAppend 1048576 (⟨[102, 97, 97], x, 0⟩ :: ftl) [102, 97, 97] [120] = ⟨[102, 97, 97], x, 0⟩ :: ftl := by
  have e : eAppend 1048576 (⟨[102, 97, 97], x, 0⟩ :: ftl) [102, 97, 97] [120] = 7 := by
    unfold eAppend
    rw [show isNm [102, 97, 97] = true by decide]
    simp [fndK, h]
  refine ⟨e, ?_⟩
  unfold aAppend
  rw [e]
  rfl
theorem full_three (x : List UInt8) (h : x.length = 65536) : eAppend 1048576 (⟨[102, 97, 97], x, 0⟩ :: ftl) [102, 97, 98] [120] = 0 := by
  have hf : fnd [102, 97, 98] (⟨[102, 97, 97], x, 0⟩ :: ftl) = some ⟨[102, 97, 98], [], 0⟩ := by
    rw [← ftl_fab]
    simp [fndK, List.find?_cons]
  unfold eAppend
  rw [show isNm [102, 97, 98] = true by decide, hf, used_cons, ftl_used]
  simp [h]
theorem str_same (l : List UInt8) : ((str l).toList == (str l).toList) = true := beq_self_eq_true _
theorem u8_ofNat (n : Nat) (h : n < 256) : bv (UInt8.ofNat n) = .int .u8 (n : Int) := by
  simp [bv, UInt8.toNat_ofNat, Nat.mod_eq_of_lt h]
/-- Two bytes, as a string. -/
theorem two_str (w : World) (a b : Nat) (ha : a < 256) (hb : b < 256) :
    (convert 56 9 (.slice (some ⟨w.heap.size, 0, none⟩) 2 2)).run Try.prog (w.alloc (.cells #[.int .u8 (a : Int), .int .u8 (b : Int)] 5)) = .ok (.string (str [UInt8.ofNat a, UInt8.ofNat b])) (w.alloc (.cells #[.int .u8 (a : Int), .int .u8 (b : Int)] 5)) := by
  refine run_convert_bytes_back _ _ _ 5 _ _ [UInt8.ofNat a, UInt8.ofNat b] Try.underlying56 Try.underlying5 Try.underlying9 (fun j hj => ?_)
  have hc := Cells.made w 5 #[.int .u8 (a : Int), .int .u8 (b : Int)]
  have h2 : j = 0 ∨ j = 1 := by simp at hj; omega
  rcases h2 with rfl | rfl
  · rw [show ((⟨w.heap.size, 0, none⟩ : Addr).add 0) = ⟨w.heap.size, 0, none⟩ from rfl, hc.cell]
    simp [Nat.mod_eq_of_lt ha]
  · rw [show ((⟨w.heap.size, 0, none⟩ : Addr).add 1) = ⟨w.heap.size, 1, none⟩ from rfl, hc.cell]
    simp [Nat.mod_eq_of_lt hb]
set_option maxHeartbeats 8000000 in
theorem law_known (w : World) : Calls Try.prog 6 #[] w fun E w' => E = .returned (.bool true) ∧ Below w.heap.size w w' := by
  have q1 := str_eq [49, 50, 51, 52, 53] [49, 50, 51, 52, 53] rfl
  have q3 := str_eq [49, 50, 51] [49, 50, 51] rfl
  go_enter Try.func6, Try.ntmps6
  go_wp2_with fail
  refine (some_c w).mono ?_
  rintro R w1 ⟨v, rfl, o1⟩
  obtain ⟨gd, rfl⟩ := o1.dk.ptr
  have O1 := Lib.hid o1
  clear o1
  go_wp2_with fail
  refine (works_c w1).mono ?_
  rintro R w2 ⟨rfl, hb⟩
  have O2 := Lib.hid (O1.out.new hb)
  clear hb O1
  go_wp2_with fail
  refine (torn_c _ 1 (ints_one w2 (-1) (by decide)) (by decide) (fun a ha => by cases ha; simp)).mono ?_
  rintro R w3 ⟨rfl, hb⟩
  rw [show tornB [-1] = [49, 50, 51, 52, 53] by decide +kernel]
  have O3 := Lib.hid ((O2.out.new (below_alloc w2 _)).new hb)
  clear hb O2
  go_wp2_with fail
  refine (torn_c _ 1 (ints_one w3 (3) (by decide)) (by decide) (fun a ha => by cases ha; simp)).mono ?_
  rintro R w4 ⟨rfl, hb⟩
  rw [show tornB [3] = [49, 50, 51] by decide +kernel]
  have O4 := Lib.hid ((O3.out.new (below_alloc w3 _)).new hb)
  clear hb O3
  go_wp2_with fail
  refine (torn_c _ 1 (ints_one w4 (0) (by decide)) (by decide) (fun a ha => by cases ha; simp)).mono ?_
  rintro R w5 ⟨rfl, hb⟩
  rw [show tornB [0] = [49, 50, 51] by decide +kernel]
  have O5 := Lib.hid ((O4.out.new (below_alloc w4 _)).new hb)
  clear hb O4
  go_wp2_with fail
  refine (torn_c _ 1 (ints_one w5 (2) (by decide)) (by decide) (fun a ha => by cases ha; simp)).mono ?_
  rintro R w6 ⟨rfl, hb⟩
  rw [show tornB [2] = [49, 50, 51, 52, 53] by decide +kernel]
  have O6 := Lib.hid ((O5.out.new (below_alloc w5 _)).new hb)
  clear hb O5
  go_wp2_with fail
  refine (torn_c _ 1 (ints_one w6 (-4) (by decide)) (by decide) (fun a ha => by cases ha; simp)).mono ?_
  rintro R w7 ⟨rfl, hb⟩
  rw [show tornB [-4] = [49, 50, 51, 52, 53] by decide +kernel]
  have O7 := Lib.hid ((O6.out.new (below_alloc w6 _)).new hb)
  clear hb O6
  go_wp2_with fail
  refine (append_c [97] [54, 55, 56, 57, 48, 49] w7 O7.out.dk O7.out.grow (by decide) (by decide)).mono ?_
  rintro R w8 ⟨rfl, hd, ht⟩
  rw [show eAppend 10 [e0] [97] [54, 55, 56, 57, 48, 49] = 7 from by decide +kernel]
  rw [show aAppend 10 [e0] [97] [54, 55, 56, 57, 48, 49] = [e0] from by decide +kernel] at hd
  have O8 : Hid (Own w.heap.size w w8 (.pointer (some ⟨gd, 0, none⟩)) 10 [e0]) := O7.out.step hd ht
  clear hd ht O7
  go_wp2_with fail
  refine (append_c [97] [54, 55, 56, 57, 48] w8 O8.out.dk O8.out.grow (by decide) (by decide)).mono ?_
  rintro R w9 ⟨rfl, hd, ht⟩
  rw [show eAppend 10 [e0] [97] [54, 55, 56, 57, 48] = 0 from by decide +kernel]
  rw [show aAppend 10 [e0] [97] [54, 55, 56, 57, 48] = [e1] from by decide +kernel] at hd
  have O9 : Hid (Own w.heap.size w w9 (.pointer (some ⟨gd, 0, none⟩)) 10 [e1]) := O8.out.step hd ht
  clear hd ht O8
  go_wp2_with fail
  refine (append_c [97] [120] w9 O9.out.dk O9.out.grow (by decide) (by decide)).mono ?_
  rintro R w10 ⟨rfl, hd, ht⟩
  rw [show eAppend 10 [e1] [97] [120] = 7 from by decide +kernel]
  rw [show aAppend 10 [e1] [97] [120] = [e1] from by decide +kernel] at hd
  have O10 : Hid (Own w.heap.size w w10 (.pointer (some ⟨gd, 0, none⟩)) 10 [e1]) := O9.out.step hd ht
  clear hd ht O9
  go_wp2_with fail
  refine (append_c [97] [] w10 O10.out.dk O10.out.grow (by decide) (by decide)).mono ?_
  rintro R w11 ⟨rfl, hd, ht⟩
  rw [show eAppend 10 [e1] [97] [] = 0 from by decide +kernel]
  rw [show aAppend 10 [e1] [97] [] = [e1] from by decide +kernel] at hd
  have O11 : Hid (Own w.heap.size w w11 (.pointer (some ⟨gd, 0, none⟩)) 10 [e1]) := O10.out.step hd ht
  clear hd ht O10
  go_wp2_with fail
  refine (create_c [65] w11 O11.out.dk O11.out.grow (by decide)).mono ?_
  rintro R w12 ⟨rfl, hd, ht⟩
  rw [show eCreate [e1] [65] = 2 from by decide +kernel]
  rw [show aCreate [e1] [65] = [e1] from by decide +kernel] at hd
  have O12 : Hid (Own w.heap.size w w12 (.pointer (some ⟨gd, 0, none⟩)) 10 [e1]) := O11.out.step hd ht
  clear hd ht O11
  go_wp2_with fail
  refine (create_c [] w12 O12.out.dk O12.out.grow (by decide)).mono ?_
  rintro R w13 ⟨rfl, hd, ht⟩
  rw [show eCreate [e1] [] = 2 from by decide +kernel]
  rw [show aCreate [e1] [] = [e1] from by decide +kernel] at hd
  have O13 : Hid (Own w.heap.size w w13 (.pointer (some ⟨gd, 0, none⟩)) 10 [e1]) := O12.out.step hd ht
  clear hd ht O12
  go_wp2_with fail
  refine (create_c [97] w13 O13.out.dk O13.out.grow (by decide)).mono ?_
  rintro R w14 ⟨rfl, hd, ht⟩
  rw [show eCreate [e1] [97] = 6 from by decide +kernel]
  rw [show aCreate [e1] [97] = [e1] from by decide +kernel] at hd
  have O14 : Hid (Own w.heap.size w w14 (.pointer (some ⟨gd, 0, none⟩)) 10 [e1]) := O13.out.step hd ht
  clear hd ht O13
  go_wp2_with fail
  refine (rep_c [97] 33 w14 (by decide) (by decide)).mono ?_
  rintro R w15 ⟨rfl, hb⟩
  have O15 := Lib.hid (O14.out.new hb)
  clear hb O14
  go_wp2_with fail
  refine (create_c (Lib.repeatL [97] 33) w15 O15.out.dk O15.out.grow (by rw [Lib.repeatL_length]; decide)).mono ?_
  rintro R w16 ⟨rfl, hd, ht⟩
  rw [show eCreate [e1] (Lib.repeatL [97] 33) = 2 from by decide +kernel]
  rw [show aCreate [e1] (Lib.repeatL [97] 33) = [e1] from by decide +kernel] at hd
  have O16 : Hid (Own w.heap.size w w16 (.pointer (some ⟨gd, 0, none⟩)) 10 [e1]) := O15.out.step hd ht
  clear hd ht O15
  go_wp2_with fail
  refine (rep_c [97] 32 w16 (by decide) (by decide)).mono ?_
  rintro R w17 ⟨rfl, hb⟩
  have O17 := Lib.hid (O16.out.new hb)
  clear hb O16
  go_wp2_with fail
  refine (create_c (Lib.repeatL [97] 32) w17 O17.out.dk O17.out.grow (by rw [Lib.repeatL_length]; decide)).mono ?_
  rintro R w18 ⟨rfl, hd, ht⟩
  rw [show eCreate [e1] (Lib.repeatL [97] 32) = 0 from by decide +kernel]
  rw [show aCreate [e1] (Lib.repeatL [97] 32) = [e1, e2] from by decide +kernel] at hd
  have O18 : Hid (Own w.heap.size w w18 (.pointer (some ⟨gd, 0, none⟩)) 10 [e1, e2]) := O17.out.step hd ht
  clear hd ht O17
  go_wp2_with fail
  refine (create_c [48, 46, 45, 122] w18 O18.out.dk O18.out.grow (by decide)).mono ?_
  rintro R w19 ⟨rfl, hd, ht⟩
  rw [show eCreate [e1, e2] [48, 46, 45, 122] = 0 from by decide +kernel]
  rw [show aCreate [e1, e2] [48, 46, 45, 122] = [e3, e1, e2] from by decide +kernel] at hd
  have O19 : Hid (Own w.heap.size w w19 (.pointer (some ⟨gd, 0, none⟩)) 10 [e3, e1, e2]) := O18.out.step hd ht
  clear hd ht O18
  go_wp2_with fail
  refine (used_s w19 O19.out.dk).mono ?_
  rintro R w20 ⟨rfl, hb⟩
  rw [show used [e3, e1, e2] = 10 from by decide +kernel]
  have O20 := Lib.hid (O19.out.new hb)
  clear hb O19
  go_wp2_with fail
  refine (rename_c [97] [98] w20 O20.out.dk (by decide) (by decide)).mono ?_
  rintro R w21 ⟨rfl, hd, ht⟩
  rw [show eRename [e3, e1, e2] [97] [98] = 0 from by decide +kernel]
  rw [show aRename [e3, e1, e2] [97] [98] = [e3, e2, e4] from by decide +kernel] at hd
  have O21 : Hid (Own w.heap.size w w21 (.pointer (some ⟨gd, 0, none⟩)) 10 [e3, e2, e4]) := O20.out.step hd ht
  clear hd ht O20
  go_wp2_with fail
  refine (rename_c [97] [99] w21 O21.out.dk (by decide) (by decide)).mono ?_
  rintro R w22 ⟨rfl, hd, ht⟩
  rw [show eRename [e3, e2, e4] [97] [99] = 5 from by decide +kernel]
  rw [show aRename [e3, e2, e4] [97] [99] = [e3, e2, e4] from by decide +kernel] at hd
  have O22 : Hid (Own w.heap.size w w22 (.pointer (some ⟨gd, 0, none⟩)) 10 [e3, e2, e4]) := O21.out.step hd ht
  clear hd ht O21
  go_wp2_with fail
  refine (rename_c [98] [98] w22 O22.out.dk (by decide) (by decide)).mono ?_
  rintro R w23 ⟨rfl, hd, ht⟩
  rw [show eRename [e3, e2, e4] [98] [98] = 0 from by decide +kernel]
  rw [show aRename [e3, e2, e4] [98] [98] = [e3, e2, e4] from by decide +kernel] at hd
  have O23 : Hid (Own w.heap.size w w23 (.pointer (some ⟨gd, 0, none⟩)) 10 [e3, e2, e4]) := O22.out.step hd ht
  clear hd ht O22
  go_wp2_with fail
  refine (rename_c [98] [66] w23 O23.out.dk (by decide) (by decide)).mono ?_
  rintro R w24 ⟨rfl, hd, ht⟩
  rw [show eRename [e3, e2, e4] [98] [66] = 2 from by decide +kernel]
  rw [show aRename [e3, e2, e4] [98] [66] = [e3, e2, e4] from by decide +kernel] at hd
  have O24 : Hid (Own w.heap.size w w24 (.pointer (some ⟨gd, 0, none⟩)) 10 [e3, e2, e4]) := O23.out.step hd ht
  clear hd ht O23
  go_wp2_with fail
  refine (rename_c [120] [] w24 O24.out.dk (by decide) (by decide)).mono ?_
  rintro R w25 ⟨rfl, hd, ht⟩
  rw [show eRename [e3, e2, e4] [120] [] = 2 from by decide +kernel]
  rw [show aRename [e3, e2, e4] [120] [] = [e3, e2, e4] from by decide +kernel] at hd
  have O25 : Hid (Own w.heap.size w w25 (.pointer (some ⟨gd, 0, none⟩)) 10 [e3, e2, e4]) := O24.out.step hd ht
  clear hd ht O24
  go_wp2_with fail
  refine (remove_c [48, 46, 45, 122] w25 O25.out.dk (by decide)).mono ?_
  rintro R w26 ⟨rfl, hd, ht⟩
  rw [show eFind [e3, e2, e4] [48, 46, 45, 122] = 0 from by decide +kernel]
  rw [show aRemove [e3, e2, e4] [48, 46, 45, 122] = [e2, e4] from by decide +kernel] at hd
  have O26 : Hid (Own w.heap.size w w26 (.pointer (some ⟨gd, 0, none⟩)) 10 [e2, e4]) := O25.out.step hd ht
  clear hd ht O25
  go_wp2_with fail
  refine (remove_c [48, 46, 45, 122] w26 O26.out.dk (by decide)).mono ?_
  rintro R w27 ⟨rfl, hd, ht⟩
  rw [show eFind [e2, e4] [48, 46, 45, 122] = 5 from by decide +kernel]
  rw [show aRemove [e2, e4] [48, 46, 45, 122] = [e2, e4] from by decide +kernel] at hd
  have O27 : Hid (Own w.heap.size w w27 (.pointer (some ⟨gd, 0, none⟩)) 10 [e2, e4]) := O26.out.step hd ht
  clear hd ht O26
  go_wp2_with fail
  refine (list_s w27 O27.out.dk).mono ?_
  rintro R w28 ⟨u, rfl, hu, hb⟩
  obtain ⟨uo, uc, rfl⟩ := hu.sl
  have HU := Lib.hid hu
  have O28 := Lib.hid (O27.out.new hb)
  clear hb O27 hu
  go_wp2_with fail
  refine (join_c [32] w28 HU.out (by decide) (by decide +kernel)).mono ?_
  rintro R w29 ⟨rfl, hb⟩
  rw [show Lib.join (List.map Ent.nm [e2, e4]) [32] = a32 ++ [32, 98] from by decide +kernel]
  have O29 := Lib.hid (O28.out.new hb)
  clear hb O28 HU
  go_wp2_with fail
  refine (rep_c [97] 32 w29 (by decide) (by decide)).mono ?_
  rintro R w30 ⟨rfl, hb⟩
  have O30 := Lib.hid (O29.out.new hb)
  clear hb O29
  rw [show Lib.repeatL [97] 32 = a32 from rfl]
  have qj := str_same (a32 ++ [32, 98])
  have qk : str a32 ++ (⟨#[32, 98]⟩ : ByteArray) = str (a32 ++ [32, 98]) := str_append a32 [32, 98]
  go_wp2_with fail
  refine (synced_c [98] w30 O30.out.dk (by decide)).mono ?_
  rintro R w31 ⟨rfl, hb⟩
  rw [show sy [e2, e4] [98] = 3 from by decide +kernel]
  have O31 := Lib.hid (O30.out.new hb)
  clear hb O30 qj qk
  have B31 := Lib.hid O31.out.be
  clear O31
  go_wp2_with fail
  refine (new_c 1048576 w31).mono ?_
  rintro R w32 ⟨hb, ⟨_, _, v, rfl, hd⟩ | ⟨hbad, _⟩⟩
  rotate_left
  · omega
  obtain ⟨gf, rfl⟩ := hd.ptr
  have O32 : Hid (Own w.heap.size w w32 (.pointer (some ⟨gf, 0, none⟩)) 1048576 (ffs 0)) := ⟨hd.mono (fun x _ hx => Nat.le_trans B31.out.size hx), B31.out.trans (hb.mono B31.out.size), Nat.le_refl _⟩
  clear hb hd B31 q1 q3
  go_wp2
  go_loopw [3] (fun v wr => ∃ k : Nat, k ≤ 64 ∧ v = .int .i64 k ∧ Hid (Own w.heap.size w wr (.pointer (some ⟨gf, 0, none⟩)) 1048576 (ffs k))) (fun v _ => 64 - (intOf v).toNat)
  case atStart => exact ⟨0, by omega, rfl, O32.out⟩
  case round =>
    clear O32
    obtain ⟨k, hk, rfl, O0⟩ := hrel
    by_cases hlt : k < 64
    · have k2 : (k : Int) < 64 := by omega
      obtain ⟨x, hx⟩ : ∃ x, 97 + k / 8 = x := ⟨_, rfl⟩
      obtain ⟨y, hy⟩ : ∃ y, 97 + k % 8 = y := ⟨_, rfl⟩
      have hx2 : x < 106 := by omega
      have hy2 : y < 106 := by omega
      have ix : (97 : Int) + (k : Int) / 8 = (x : Int) := by omega
      have iy : (97 : Int) + (k : Int) % 8 = (y : Int) := by omega
      have td : Int.tdiv (k : Int) 8 = (k : Int) / 8 := Int.tdiv_eq_ediv_of_nonneg (by omega)
      have tm : Int.tmod (k : Int) 8 = (k : Int) % 8 := Int.tmod_eq_emod_of_nonneg (by omega)
      have T2 := two_str wr x y (by omega) (by omega)
      have qf : (⟨#[102]⟩ : ByteArray) ++ str [UInt8.ofNat x, UInt8.ofNat y] = str (fnm k) := by rw [show fnm k = [102] ++ [UInt8.ofNat x, UInt8.ofNat y] by simp [fnm, hx, hy]]; exact str_append [102] [UInt8.ofNat x, UInt8.ofNat y]
      have HST := Lib.hid (ffs_step k hlt)
      have hcr := create_c (fnm k) (wr.alloc (.cells #[.int .u8 (x : Int), .int .u8 (y : Int)] 5)) (O0.out.new (below_alloc wr _)).dk (O0.out.new (below_alloc wr _)).grow (by simp [fnm, maxLen])
      rw [HST.out.1, HST.out.2] at hcr
      have HCR := Lib.hid hcr
      have ON := Lib.hid (O0.out.new (below_alloc wr (.cells #[.int .u8 (x : Int), .int .u8 (y : Int)] 5)))
      clear hcr hx hy
      go_wp2_with fail
      refine HCR.out.mono ?_
      rintro R v1 ⟨rfl, hd, ht⟩
      have O5 : Hid (Own w.heap.size w v1 (.pointer (some ⟨gf, 0, none⟩)) 1048576 (ffs (k + 1))) := ON.out.step hd ht
      clear hd ht HCR ON T2 qf
      go_wp2
      go_round
      case rel => exact ⟨k + 1, by omega, by go_num, O5.out⟩
      case measure => simp [intOf]; omega
    · have hx : k = 64 := by omega
      subst hx
      have X0 : Hid (Own w.heap.size w wr (.pointer (some ⟨gf, 0, none⟩)) 1048576 (ffs 64)) := O0.out
      clear O0
      have k2 : ¬ ((64 : Nat) : Int) < 64 := by omega
      go_wp2_with fail
      refine (create_c [103] wr X0.out.dk X0.out.grow (by decide)).mono ?_
      rintro R x1 ⟨rfl, hd, ht⟩
      rw [show eCreate (ffs 64) [103] = 7 from ffs_full.1]
      rw [show aCreate (ffs 64) [103] = ffs 64 from ffs_full.2] at hd
      have X1 : Hid (Own w.heap.size w x1 (.pointer (some ⟨gf, 0, none⟩)) 1048576 (ffs 64)) := X0.out.step hd ht
      clear hd ht X0
      go_wp2_with fail
      refine (rep_c [120] 65536 x1 (by decide) (by decide)).mono ?_
      rintro R x2 ⟨rfl, hb⟩
      obtain ⟨rr, hrr⟩ : ∃ rr, Lib.repeatL [120] 65536 = rr := ⟨_, rfl⟩
      have hrl : rr.length = 65536 := by rw [← hrr, Lib.repeatL_length]; rfl
      have HRL := Lib.hid hrl
      rw [hrr]
      have X2 := Lib.hid (X1.out.new hb)
      clear hb X1 hrr hrl
      go_wp2_with fail
      refine (append_c [102, 97, 97] rr x2 X2.out.dk X2.out.grow (by decide) (by rw [HRL.out]; decide)).mono ?_
      rintro R x3 ⟨rfl, hd, ht⟩
      rw [show eAppend 1048576 (ffs 64) [102, 97, 97] rr = 0 from (full_one rr HRL.out).1]
      rw [show aAppend 1048576 (ffs 64) [102, 97, 97] rr = ⟨[102, 97, 97], rr, 0⟩ :: ftl from (full_one rr HRL.out).2] at hd
      have X3 : Hid (Own w.heap.size w x3 (.pointer (some ⟨gf, 0, none⟩)) 1048576 (⟨[102, 97, 97], rr, 0⟩ :: ftl)) := X2.out.step hd ht
      clear hd ht X2
      go_wp2_with fail
      refine (append_c [102, 97, 97] [120] x3 X3.out.dk X3.out.grow (by decide) (by decide)).mono ?_
      rintro R x4 ⟨rfl, hd, ht⟩
      rw [show eAppend 1048576 (⟨[102, 97, 97], rr, 0⟩ :: ftl) [102, 97, 97] [120] = 7 from (full_two rr HRL.out).1]
      rw [show aAppend 1048576 (⟨[102, 97, 97], rr, 0⟩ :: ftl) [102, 97, 97] [120] = ⟨[102, 97, 97], rr, 0⟩ :: ftl from (full_two rr HRL.out).2] at hd
      have X4 : Hid (Own w.heap.size w x4 (.pointer (some ⟨gf, 0, none⟩)) 1048576 (⟨[102, 97, 97], rr, 0⟩ :: ftl)) := X3.out.step hd ht
      clear hd ht X3
      go_wp2_with fail
      refine (append_c [102, 97, 98] [120] x4 X4.out.dk X4.out.grow (by decide) (by decide)).mono ?_
      rintro R x5 ⟨rfl, hd, ht⟩
      rw [show eAppend 1048576 (⟨[102, 97, 97], rr, 0⟩ :: ftl) [102, 97, 98] [120] = 0 from full_three rr HRL.out]
      have B5 := Lib.hid (X4.out.step hd ht).be
      clear hd ht X4
      go_wp2_with fail
      have HZ := Lib.hid (Cells.made x5 59 #[.int .i64 0, .map none])
      have ZB := Lib.hid (below_alloc x5 (.cells #[.int .i64 0, .map none] 59))
      have zc := crash_nil (ao := some ⟨x5.heap.size + 1, 0, none⟩) (n := 1) (cap := 1) ((x5.alloc (.cells #[.int .i64 0, .map none] 59)).alloc (.cells #[.int .i64 1] 3)) (.inl rfl : NilD _ (.pointer none))
      have ZA := Lib.hid (below_alloc (x5.alloc (.cells #[.int .i64 0, .map none] 59)) (.cells #[.int .i64 1] 3))
      generalize x5.alloc (.cells #[.int .i64 0, .map none] 59) = z1 at *
      generalize z1.alloc (.cells #[.int .i64 1] 3) = z2 at *
      with_reducible refine zc.mono ?_
      rintro R x6 ⟨rfl, hb⟩
      have ZC := Lib.hid (ZA.out.trans (hb.mono ZA.out.size))
      have N6 : Hid (NilD x6 (.pointer (some ⟨x5.heap.size, 0, none⟩))) := .inr ⟨_, 0, rfl, HZ.out.below ZC.out HZ.out.lt⟩
      have B6 := Lib.hid (B5.out.trans ((ZB.out.trans (ZC.out.mono ZB.out.size)).mono B5.out.size))
      clear hb HZ ZB ZA ZC zc B5
      go_wp2_with fail
      refine (read_nil _ [97] x6 N6.out).mono ?_
      rintro R x7 ⟨rfl, hb⟩
      have N7 := Lib.hid (N6.out.new hb)
      have B7 := Lib.hid (B6.out.trans (hb.mono B6.out.size))
      clear hb N6 B6
      go_wp2_with fail
      refine (new_c 0 x7).mono ?_
      rintro R x8 ⟨hb, ⟨h1, h2, _⟩ | ⟨_, rfl⟩⟩
      · omega
      have N8 := Lib.hid (N7.out.new hb)
      have B8 := Lib.hid (B7.out.trans (hb.mono B7.out.size))
      clear hb N7 B7
      go_wp2_with fail
      refine (new_c 1048577 x8).mono ?_
      rintro R x9 ⟨hb, ⟨h1, h2, _⟩ | ⟨_, rfl⟩⟩
      · omega
      have N9 := Lib.hid (N8.out.new hb)
      have B9 := Lib.hid (B8.out.trans (hb.mono B8.out.size))
      clear hb N8 B8
      go_wp2_with fail
      refine (create_nil _ [97] x9 (.inl rfl)).mono ?_
      rintro R x10 ⟨rfl, hb⟩
      have N10 := Lib.hid (N9.out.new hb)
      have B10 := Lib.hid (B9.out.trans (hb.mono B9.out.size))
      clear hb N9 B9
      go_wp2_with fail
      refine (create_nil _ [] x10 N10.out).mono ?_
      rintro R x11 ⟨rfl, hb⟩
      have N11 := Lib.hid (N10.out.new hb)
      have B11 := Lib.hid (B10.out.trans (hb.mono B10.out.size))
      clear hb N10 B10
      go_wp2_with fail
      refine (copy_nil x11 (.inl rfl)).mono ?_
      rintro R x12 ⟨rfl, hb⟩
      have N12 := Lib.hid (N11.out.new hb)
      have B12 := Lib.hid (B11.out.trans (hb.mono B11.out.size))
      clear hb N11 B11
      go_wp2_with fail
      refine (copy_nil x12 N12.out).mono ?_
      rintro R x13 ⟨rfl, hb⟩
      have N13 := Lib.hid (N12.out.new hb)
      have B13 := Lib.hid (B12.out.trans (hb.mono B12.out.size))
      clear hb N12 B12
      go_wp2_with fail
      refine (list_nil x13 N13.out).mono ?_
      rintro R x14 ⟨u, rfl, hu, hb⟩
      obtain ⟨uo, uc, rfl⟩ := hu.sl
      have N14 := Lib.hid (N13.out.new hb)
      have B14 := Lib.hid (B13.out.trans (hb.mono B13.out.size))
      clear hb hu N13 B13
      go_wp2_with fail
      refine (usedD_nil x14 (.inl rfl)).mono ?_
      rintro R x15 ⟨rfl, hb⟩
      have N15 := Lib.hid (N14.out.new hb)
      have B15 := Lib.hid (B14.out.trans (hb.mono B14.out.size))
      clear hb N14 B14
      go_wp2_with fail
      refine (synced_nil _ [97] x15 N15.out).mono ?_
      rintro R x16 ⟨rfl, hb⟩
      have N16 := Lib.hid (N15.out.new hb)
      have B16 := Lib.hid (B15.out.trans (hb.mono B15.out.size))
      clear hb N15 B15
      go_wp2_with fail
      refine (works_c x16).mono ?_
      rintro R x17 ⟨rfl, hb⟩
      have B17 := Lib.hid (B16.out.trans (hb.mono B16.out.size))
      clear hb N16 B16
      go_wp2
      go_ret
      exact ⟨rfl, B17.out⟩
end Go.Proofs.Ytecchaogpcpooaa
