/- Powers that are none; PowerKnown: the walk. -/
import Derived.Test.YthjhjbiihhpnfaaPj
import Derived.LaidEqlPtr
namespace Go.Proofs.Ythjhjbiihhpnfaa
open Go.RowKit
set_option linter.unusedVariables false
set_option linter.unusedSimpArgs false
set_option maxRecDepth 100000

theorem run_neq_ptr_same {P : Program} (w : World) {tp te : TypeId} {j : TypeInfo} (a : Addr) (hp : P.underlying tp = some (.pointer te)) (hte : P.info? te = some j) :
    (binOp .neq tp (.pointer (some a)) (.pointer (some a))).run P w = .ok (.bool false) w := by
  have h : ∀ d : Nat, (Op.equalIn (d + 1) tp (.pointer (some a)) (.pointer (some a))).run P w = .ok true w := fun d => by
    simp [Op.equalIn, run_underlying hp, sizeOf, typeInfo, hte, run_sameAddr_same]
  simp only [binOp]
  simp [Op.equal, Op.maxDepth, h 9999]
theorem neq_disk (gd : Nat) (w : World) : (binOp .neq 22 (.pointer (some ⟨gd, 0, none⟩)) (.pointer (some ⟨gd, 0, none⟩))).run Try.prog w = .ok (.bool false) w := by
  have hi : (Try.prog.info? 57).isSome = true := by kernel_rfl
  obtain ⟨j, hj⟩ := Option.isSome_iff_exists.1 hi
  exact run_neq_ptr_same w _ Try.underlying22 hj
/-- nil, or a power that New did not return. -/
def NoP (w : World) (v : Value) : Prop := v = .pointer none ∨ ∃ z, v = .pointer (some ⟨z, 0, none⟩) ∧ w.cell? ⟨z, 0, none⟩ = some (.pointer none)
theorem NoP.new {w w' : World} {v : Value} (h : NoP w v) (k : Below w.heap.size w w') : NoP w' v := by
  rcases h with rfl | ⟨z, rfl, hc⟩
  · exact .inl rfl
  · exact .inr ⟨z, rfl, by rw [k.cell (p := ⟨z, 0, none⟩) (World.block_lt_of_cell? w _ hc)]; exact hc⟩
theorem check_no {v : Value} (w : World) (h : NoP w v) : Calls Try.prog 19 #[v] w fun R w' => R = .returned (.int .i64 1) ∧ w = w' := by
  rcases h with rfl | ⟨z, rfl, hc⟩
  · exact pcheck_nil w
  · exact pcheck_zero z w hc
theorem blow_no {v : Value} (w : World) (h : NoP w v) : Calls Try.prog 12 #[v] w fun R w' => R = .returned (.tuple #[]) ∧ w = w' := by
  have H := Lib.hid h
  clear h
  go_enter Try.func12, Try.ntmps12
  go_wp2_with fail
  refine (check_no w H.out).mono ?_
  rintro R w1 ⟨rfl, rfl⟩
  go_wp2
  go_end0
  exact ⟨rfl, rfl⟩
theorem down_no {v : Value} (w : World) (h : NoP w v) : Calls Try.prog 6 #[v] w fun R w' => R = .returned (.bool true) ∧ w = w' := by
  have H := Lib.hid h
  clear h
  go_enter Try.func6, Try.ntmps6
  go_wp2_with fail
  refine (check_no w H.out).mono ?_
  rintro R w1 ⟨rfl, rfl⟩
  go_wp2
  go_ret
  exact ⟨rfl, rfl⟩
theorem writes_no {v : Value} (w : World) (h : NoP w v) : Calls Try.prog 14 #[v] w fun R w' => R = .returned (.int .i64 0) ∧ w = w' := by
  have H := Lib.hid h
  clear h
  go_enter Try.func14, Try.ntmps14
  go_wp2_with fail
  refine (check_no w H.out).mono ?_
  rintro R w1 ⟨rfl, rfl⟩
  go_wp2
  go_ret
  exact ⟨rfl, rfl⟩
theorem disk_no {v : Value} (w : World) (h : NoP w v) : Calls Try.prog 7 #[v] w fun R w' => R = .returned (.pointer none) ∧ w = w' := by
  have H := Lib.hid h
  clear h
  go_enter Try.func7, Try.ntmps7
  go_wp2_with fail
  refine (check_no w H.out).mono ?_
  rintro R w1 ⟨rfl, rfl⟩
  go_wp2
  go_ret
  exact ⟨rfl, rfl⟩
theorem list_no {v : Value} (w : World) (h : NoP w v) : Calls Try.prog 11 #[v] w fun R w' => R = .returned (.slice none 0 0) ∧ w = w' := by
  have H := Lib.hid h
  clear h
  go_enter Try.func11, Try.ntmps11
  go_wp2_with fail
  refine (check_no w H.out).mono ?_
  rintro R w1 ⟨rfl, rfl⟩
  go_wp2
  go_ret
  exact ⟨rfl, rfl⟩
theorem read_no {v : Value} (n : List UInt8) (w : World) (h : NoP w v) : Calls Try.prog 16 #[v, .string (str n)] w fun R w' => R = .returned (.tuple #[.string ⟨#[]⟩, .int .i64 1]) ∧ w = w' := by
  have H := Lib.hid h
  clear h
  go_enter Try.func16, Try.ntmps16
  go_wp2_with fail
  refine (check_no w H.out).mono ?_
  rintro R w1 ⟨rfl, rfl⟩
  go_wp2
  go_ret2
  exact ⟨rfl, rfl⟩
theorem write_no {v fv : Value} (w : World) (h : NoP w v) : Calls Try.prog 20 #[v, fv] w fun R w' => R = .returned (.int .i64 1) ∧ w = w' := by
  have H := Lib.hid h
  clear h
  go_enter Try.func20, Try.ntmps20
  go_wp2_with fail
  refine (check_no w H.out).mono ?_
  rintro R w1 ⟨rfl, rfl⟩
  go_wp2
  go_ret
  exact ⟨rfl, rfl⟩
theorem create_no {v : Value} (n : List UInt8) (w : World) (h : NoP w v) : Calls Try.prog 8 #[v, .string (str n)] w fun R w' => R = .returned (.int .i64 1) ∧ Below w.heap.size w w' := by
  have hmf : ∀ (fn : Fn) (first cap : Array Value) (w : World), (Instr.makeFunc fn first cap).run Try.prog w = .ok (.func fn first cap) w := fun _ _ _ _ => rfl
  have ha := below_alloc w (.cells #[.string (str n)] 9)
  have H := Lib.hid (h.new ha)
  have A := Lib.hid ha
  clear h ha
  go_enter Try.func8, Try.ntmps8
  go_wp2_with fail
  refine (write_no _ H.out).mono ?_
  rintro R w1 ⟨rfl, rfl⟩
  go_wp2
  go_ret
  exact ⟨rfl, A.out⟩
theorem sync_no {v : Value} (n : List UInt8) (w : World) (h : NoP w v) : Calls Try.prog 10 #[v, .string (str n)] w fun R w' => R = .returned (.int .i64 1) ∧ Below w.heap.size w w' := by
  have hmf : ∀ (fn : Fn) (first cap : Array Value) (w : World), (Instr.makeFunc fn first cap).run Try.prog w = .ok (.func fn first cap) w := fun _ _ _ _ => rfl
  have ha := below_alloc w (.cells #[.string (str n)] 9)
  have H := Lib.hid (h.new ha)
  have A := Lib.hid ha
  clear h ha
  go_enter Try.func10, Try.ntmps10
  go_wp2_with fail
  refine (write_no _ H.out).mono ?_
  rintro R w1 ⟨rfl, rfl⟩
  go_wp2
  go_ret
  exact ⟨rfl, A.out⟩
theorem new_no (fu : Int) (a : Value) (w : World) : Calls Try.prog 5 #[.pointer none, .int .i64 fu, a] w fun R w' => R = .returned (.pointer none) ∧ w = w' := by
  go_enter Try.func5, Try.ntmps5
  go_wp2
  go_ret
  exact ⟨rfl, rfl⟩
/-! The chapter's third example, step by step. -/
def u1 : List Ent := aCreate [] [97]
def u2 : List Ent := aAppend 100 u1 [97] [120, 121, 122]
def u3 : List Ent := aSync u2 [97]
def u4 : List Ent := aAppend 100 u3 [97] [119]
def u5 : List Ent := aCrash [1, 2] u4
def pk (n : Nat) (E : List Ent) : Pw := ⟨-1, [1, 2], n, false, E⟩
def pz : Pw := ⟨-1, [1, 2], 4, true, u5⟩
theorem pk_code (n r : Nat) (E : List Ent) : (pk n E).code r = r := by
  unfold Pw.code pk
  dsimp only
  rw [if_neg Bool.false_ne_true, if_neg (by omega)]
theorem pk_after (n : Nat) (E E' : List Ent) : (pk n E).after E' = pk (n + 1) E' := by
  unfold Pw.after pk
  dsimp only
  rw [if_neg Bool.false_ne_true, if_neg (by omega)]
theorem pk_blow : (pk 4 u4).blow = pz := rfl
theorem pz_blow : pz.blow = pz := rfl
theorem pz_after (E : List Ent) : pz.after E = pz := rfl
theorem pz_code (r : Nat) : pz.code r = 8 := rfl
set_option maxHeartbeats 8000000 in
theorem law_known (w : World) : Calls Try.prog 3 #[] w fun R w' => R = .returned (.bool true) ∧ Below w.heap.size w w' := by
  have hnot : ∀ (x : Bool) (w : World), (Op.unary .not (.bool x)).run Try.prog w = .ok (.bool (!x)) w := fun _ _ => rfl
  go_enter Try.func3, Try.ntmps3
  go_wp2_with fail
  refine (new_c 100 w).mono ?_
  rintro R w1 ⟨hb1, ⟨_, _, v, rfl, hd1⟩ | ⟨hbad, _⟩⟩
  rotate_left
  · omega
  obtain ⟨gd, rfl⟩ := hd1.ptr1
  have hd1' : DkS (fun x => w.heap.size ≤ x) w1 (.pointer (some ⟨gd, 0, none⟩)) 100 [] := hd1
  have ha := below_alloc w1 (.cells #[.int .i64 1, .int .i64 2] 3)
  have D1 := Lib.hid (hd1'.new ha)
  have B1 := Lib.hid (hb1.trans (ha.mono hb1.size))
  have I1 := Lib.hid (ints2 1 2 (Cells.made w1 3 #[.int .i64 1, .int .i64 2]) (by decide) (by decide))
  have hnd := neq_disk gd
  clear hd1 hd1' hb1 ha
  go_wp2_with fail
  refine (pnew_c (-1) _ [1, 2] 2 _ D1.out I1.out (by decide)).mono ?_
  rintro R w2 ⟨g, ko, kc, rfl, hg, _, hp2, hb2⟩
  have R2 := Lib.hid (PwR.made (w0 := w) (S0 := fun x => w.heap.size ≤ x) (p := pk 0 []) hp2 hg hb2 (fun x hx => hx) B1.out)
  clear hg hp2 hb2 B1 D1 I1
  generalize (fun x => (w.heap.size ≤ x ∧ x < (w1.alloc (.cells #[.int .i64 1, .int .i64 2] 3)).heap.size) ∨ w2.heap.size ≤ x) = S at *
  go_wp2_with fail
  refine (pdown_c w2 R2.out.p).mono ?_
  rintro R w3 ⟨rfl, rfl⟩
  rw [show (pk 0 []).off = false from rfl]
  go_wp2_with fail
  refine (pdisk_c w2 R2.out.p).mono ?_
  rintro R w3 ⟨rfl, rfl⟩
  go_wp2_with fail
  refine (pcreate_c [97] [] w2 R2.out.p R2.out.new (by decide) (by decide) (by show 0 < 1000000; decide)).mono ?_
  rintro R w3 ⟨rfl, hp, ht⟩
  rw [pk_after] at hp
  rw [pk_code, show wrR 0 100 (pk 0 []).E [97] [] = 0 by decide +kernel]
  have R3 := Lib.hid (R2.out.step (p' := pk 1 u1) hp ht)
  clear hp ht R2
  go_wp2_with fail
  refine (pappend_c [97] [120, 121, 122] w3 R3.out.p R3.out.new (by decide) (by decide) (by show 1 < 1000000; decide)).mono ?_
  rintro R w4 ⟨rfl, hp, ht⟩
  rw [pk_after] at hp
  rw [pk_code, show wrR 1 100 (pk 1 u1).E [97] [120, 121, 122] = 0 by decide +kernel]
  have R4 := Lib.hid (R3.out.step (p' := pk 2 u2) hp ht)
  clear hp ht R3
  go_wp2_with fail
  refine (psync_c [97] [] w4 R4.out.p R4.out.new (by decide) (by decide) (by show 2 < 1000000; decide)).mono ?_
  rintro R w5 ⟨rfl, hp, ht⟩
  rw [pk_after] at hp
  rw [pk_code, show wrR 2 100 (pk 2 u2).E [97] [] = 0 by decide +kernel]
  have R5 := Lib.hid (R4.out.step (p' := pk 3 u3) hp ht)
  clear hp ht R4
  go_wp2_with fail
  refine (pappend_c [97] [119] w5 R5.out.p R5.out.new (by decide) (by decide) (by show 3 < 1000000; decide)).mono ?_
  rintro R w6 ⟨rfl, hp, ht⟩
  rw [pk_after] at hp
  rw [pk_code, show wrR 1 100 (pk 3 u3).E [97] [119] = 0 by decide +kernel]
  have R6 := Lib.hid (R5.out.step (p' := pk 4 u4) hp ht)
  clear hp ht R5
  go_wp2_with fail
  refine (plist_c w6 R6.out.p).mono ?_
  rintro R w7 ⟨u, rfl, hu, hb⟩
  obtain ⟨uo, uc, rfl⟩ := hu.sl
  rw [show (pk 4 u4).names.length = 1 by decide +kernel]
  have R7 := Lib.hid (R6.out.more hb)
  clear hu hb R6
  go_wp2_with fail
  refine (blow_c w7 R7.out.p).mono ?_
  rintro R w8 ⟨rfl, hp, ht⟩
  rw [pk_blow] at hp
  have R8 := Lib.hid (R7.out.step hp ht)
  clear hp ht R7
  go_wp2_with fail
  refine (blow_c w8 R8.out.p).mono ?_
  rintro R w9 ⟨rfl, hp, ht⟩
  rw [pz_blow] at hp
  have R9 := Lib.hid (R8.out.step hp ht)
  clear hp ht R8
  go_wp2_with fail
  refine (read_c [97] w9 R9.out.p.dk (by decide)).mono ?_
  rintro R w10 ⟨rfl, hb⟩
  rw [show rd pz.E [97] = [120, 121, 122, 119] by decide +kernel, show eFind pz.E [97] = 0 by decide +kernel]
  have q1 : ((str [120, 121, 122, 119]).toList == [120, 121, 122, 119]) = true := by decide +kernel
  have R10 := Lib.hid (R9.out.more hb)
  clear hb R9
  go_wp2_with fail
  refine (pdown_c w10 R10.out.p).mono ?_
  rintro R w11 ⟨rfl, rfl⟩
  rw [show pz.off = true from rfl]
  go_wp2_with fail
  refine (pwrites_c w10 R10.out.p).mono ?_
  rintro R w11 ⟨rfl, rfl⟩
  rw [show pz.n = 4 from rfl]
  go_wp2_with fail
  refine (plist_c w10 R10.out.p).mono ?_
  rintro R w11 ⟨u, rfl, hu, hb⟩
  obtain ⟨uo2, uc2, rfl⟩ := hu.sl
  rw [show pz.names.length = 0 from rfl]
  have R11 := Lib.hid (R10.out.more hb)
  clear hu hb R10
  go_wp2_with fail
  refine (pcreate_c [98] [] w11 R11.out.p R11.out.new (by decide) (by decide) (by show 4 < 1000000; decide)).mono ?_
  rintro R w12 ⟨rfl, hp, ht⟩
  rw [pz_after] at hp
  rw [pz_code]
  have R12 := Lib.hid (R11.out.step hp ht)
  clear hp ht R11
  go_wp2_with fail
  refine (pwrites_c w12 R12.out.p).mono ?_
  rintro R w13 ⟨rfl, rfl⟩
  rw [show pz.n = 4 from rfl]
  have B12 := Lib.hid R12.out.be
  clear R12
  go_wp2_with fail
  refine (left_c none [] 0 [] w12 (fun j hj => by cases hj) (by decide) (by decide +kernel) (by decide +kernel)).mono ?_
  rintro R w13 ⟨rfl, hb⟩
  rw [str_nil]
  have B13 := Lib.hid (B12.out.trans (hb.mono B12.out.size))
  clear hb B12
  have hz := below_alloc w13 (.cells #[.pointer none, .int .i64 0, .slice none 0 0, .int .i64 0, .int .u32 0, .int .u32 0, .int .i32 0, .int .u32 0] 54)
  have B14 := Lib.hid (B13.out.trans (hz.mono B13.out.size))
  have NZ : Hid (NoP (w13.alloc (.cells #[.pointer none, .int .i64 0, .slice none 0 0, .int .i64 0, .int .u32 0, .int .u32 0, .int .i32 0, .int .u32 0] 54)) (.pointer (some ⟨w13.heap.size, 0, none⟩))) := .inr ⟨_, rfl, (Cells.made w13 _ _).cell 0⟩
  have NN : Hid (∀ W, NoP W (.pointer none)) := fun W => .inl rfl
  clear hz B13
  go_wp2_with fail
  refine (blow_no _ (NN.out _)).mono ?_
  rintro R w14 ⟨rfl, hw14⟩
  rw [hw14] at NZ B14
  clear hw14
  generalize w13.heap.size = z at *
  go_wp2_with fail
  refine (blow_no _ NZ.out).mono ?_
  rintro R w15 ⟨rfl, rfl⟩
  go_wp2_with fail
  refine (read_no [97] _ (NN.out _)).mono ?_
  rintro R w15 ⟨rfl, rfl⟩
  go_wp2_with fail
  refine (new_no 0 _ _).mono ?_
  rintro R w15 ⟨rfl, rfl⟩
  go_wp2_with fail
  refine (create_no [97] _ (NN.out _)).mono ?_
  rintro R w15 ⟨rfl, hb⟩
  have B15 := Lib.hid (B14.out.trans (hb.mono B14.out.size))
  have NZ2 := Lib.hid (NZ.out.new hb)
  clear hb B14 NZ
  go_wp2_with fail
  refine (sync_no [97] _ NZ2.out).mono ?_
  rintro R w16 ⟨rfl, hb⟩
  have B16 := Lib.hid (B15.out.trans (hb.mono B15.out.size))
  have NZ3 := Lib.hid (NZ2.out.new hb)
  clear hb B15 NZ2
  go_wp2_with fail
  refine (down_no _ (NN.out _)).mono ?_
  rintro R w17 ⟨rfl, rfl⟩
  go_wp2_with fail
  refine (down_no _ NZ3.out).mono ?_
  rintro R w17 ⟨rfl, rfl⟩
  go_wp2_with fail
  refine (writes_no _ (NN.out _)).mono ?_
  rintro R w17 ⟨rfl, rfl⟩
  go_wp2_with fail
  refine (disk_no _ NZ3.out).mono ?_
  rintro R w17 ⟨rfl, rfl⟩
  go_wp2_with fail
  refine (list_no _ NZ3.out).mono ?_
  rintro R w17 ⟨rfl, rfl⟩
  go_wp2_with fail
  refine (awake_c _).mono ?_
  rintro R w17 ⟨rfl, hb⟩
  go_wp2
  go_ret
  exact ⟨rfl, B16.out.trans (hb.mono B16.out.size)⟩
end Go.Proofs.Ythjhjbiihhpnfaa
