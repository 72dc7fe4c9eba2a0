/- Texts of the walk. -/
import Derived.Test.YtgeaacabpnepmaaGreatDoorBb8
import Derived.Lib.ConvBytes
import Derived.Lib.BufferRead
import Derived.Shelf.SlGeneric
import Derived.Shelf.SlIter.Nil
import Derived.Shelf.SortM.Plain
import Derived.Shelf.SortM.SortNone
import Derived.Shelf.Pu.Clone
import Derived.Test.YtgeaacabpnepmaaGreatDoorRows
import Derived.RangeFuncNested
import Derived.RangeFuncBound
import Derived.RangeFuncCalls
import Derived.RangeFuncLeaves
import Derived.RangeFuncBox
import Derived.Shelf.Abstract
import Derived.Shelf.AbstractIn
import Derived.Shelf.RegionOpen
import Derived.WalkKit
import Derived.OwnWalkIn
import Derived.TacticsInMore
import Derived.LoopNIn
import Derived.LoopIn
import Derived.Maps.AppendAt
/- Texts of elder layers, one behind the other. -/
/- A file found by its name; what is asked of it; Sync. -/
namespace Go.Proofs.YtgeaacabpnepmaaGreatDoor
open Go.RowKit
set_option linter.unusedVariables false
set_option maxRecDepth 100000

theorem find_nil (v : Value) (n : List UInt8) (w : World) (h : NilD w v) :
    Calls Tryz.prog 98 #[v, .string (str n)] w fun E w' => E = .returned (.tuple #[.pointer none, .int .i64 1]) ∧ Below w.heap.size w w' := by
  have h1 := h.new (below_alloc w (.cells #[.string (str n)] 9))
  go_enter Tryz.func98, Tryz.ntmps98
  go_wp2_with fail
  refine (check_nil v _ _ h1).mono ?_
  rintro E w1 ⟨rfl, rfl⟩
  go_wp2
  go_ret2
  exact ⟨rfl, below_alloc w _⟩
theorem chk_one (n : List UInt8) : dchk [n] = if isNm n then 0 else 2 := by simp [dchk]
theorem find_c {gd m q : Nat} {fs : List Fil} (n : List UInt8) (w : World) (h : Dk w gd m q fs) (hn : n.length ≤ maxLen) :
    Calls Tryz.prog 98 #[.pointer (some ⟨gd, 0, none⟩), .string (str n)] w fun E w' =>
      E = .returned (.tuple #[.pointer (if isNm n then (fndK Fil.nm n fs).map fun f => ⟨f.g, 0, none⟩ else none), .int .i64 (eFind (fs.map Fil.ent) n)]) ∧ Below w.heap.size w w' := by
  have hb := below_alloc w (.cells #[.string (str n)] 9)
  have hd := h.new hb
  have hc := dcheck_c 1 [n] _ hd (nms_one w n hn) (by simp)
  have hl := look_c hd.toDj n hn
  have hE : Hid (eFind (fs.map Fil.ent) n = if isNm n then (if (fndK Fil.nm n fs).isSome then 0 else 5) else 2) := by
    show _ = _
    unfold eFind
    rw [ent_map]
    cases fndK Fil.nm n fs <;> rfl
  rw [hE.out]
  clear hE
  have c1 : (w.alloc (.cells #[.string (str n)] 9)).cell? ⟨gd, 1, none⟩ = some (.map (some m)) := by rw [hd.blk.cell]; rfl
  rw [chk_one] at hc
  cases hq : isNm n with
  | false =>
    rw [hq] at hc
    simp only [Bool.false_eq_true, ite_false] at hc ⊢
    go_enter Tryz.func98, Tryz.ntmps98
    go_wp2_with fail
    refine hc.mono ?_
    rintro E w1 ⟨rfl, rfl⟩
    go_wp2
    go_ret2
    exact ⟨rfl, hb⟩
  | true =>
    rw [hq] at hc
    simp only [ite_true] at hc ⊢
    have HB := Lib.hid hb
    cases hf : fndK Fil.nm n fs with
    | none =>
      rw [hf] at hl
      simp only [Option.map_none, Option.isSome_none, Bool.false_eq_true, ite_false] at hl ⊢
      clear hf h hd hb
      go_enter Tryz.func98, Tryz.ntmps98
      go_wp2_with fail
      refine hc.mono ?_
      rintro E w1 ⟨rfl, rfl⟩
      go_wp2
      go_ret2
      exact ⟨rfl, HB.out⟩
    | some f =>
      rw [hf] at hl
      simp only [Option.map_some, Option.isSome_some, ite_true] at hl ⊢
      clear hf h hd hb
      go_enter Tryz.func98, Tryz.ntmps98
      go_wp2_with fail
      refine hc.mono ?_
      rintro E w1 ⟨rfl, rfl⟩
      go_wp2
      go_ret2
      exact ⟨rfl, HB.out⟩
theorem row_str {w : World} {B cap : Nat} {ao : Option Addr} {bs : List UInt8} (ho : w.ownsRow B 5 1 (.slice ao bs.length cap) bs.length (bvs bs)) :
    (convert 181 9 (.slice ao bs.length cap)).run Tryz.prog w = .ok (.string (str bs)) w := by
  rcases ho.2 with ⟨he, h0⟩ | ⟨g', cap', cur, he, _, hh, _⟩
  · have : bs = [] := List.eq_nil_of_length_eq_zero h0
    subst this
    injection he with e1 e2 e3
    subst e1 e3
    exact Lib.run_convert_nil_bytes w _ _ 5 0 Tryz.underlying181 Tryz.underlying5 Tryz.underlying9
  · injection he with e1 e2 e3
    subst e1 e3
    refine run_convert_bytes_back w _ _ 5 _ _ bs Tryz.underlying181 Tryz.underlying5 Tryz.underlying9 (fun j hj => ?_)
    exact ho.cells (g := g') rfl j _ (by simp [bvs, bv, List.getElem?_eq_getElem hj])
theorem ways {E : List Ent} (fs : List Fil) (hE : fs.map Fil.ent = E) (n : List UInt8) :
    (isNm n = false ∧ eFind E n = 2 ∧ rd E n = [] ∧ sy E n = 0 ∧ aSync E n = E ∧ aRemove E n = E) ∨
    (isNm n = true ∧ fndK Fil.nm n fs = none ∧ fnd n E = none ∧ eFind E n = 5 ∧ rd E n = [] ∧ sy E n = 0 ∧ aSync E n = E) ∨
    (∃ f, isNm n = true ∧ fndK Fil.nm n fs = some f ∧ fnd n E = some f.ent ∧ eFind E n = 0 ∧ rd E n = f.bs ∧ sy E n = f.su) := by
  subst hE
  cases hq : isNm n with
  | false => left; simp [eFind, rd, sy, aSync, aRemove, hq]
  | true =>
    right
    have he := ent_map fs n
    cases hf : fndK Fil.nm n fs with
    | none =>
      rw [hf] at he
      left
      simp [eFind, rd, sy, aSync, hq, he]
    | some f =>
      rw [hf] at he
      right
      exact ⟨f, rfl, rfl, he, by simp [eFind, hq, he], by simp [rd, hq, he, Fil.ent], by simp [sy, hq, he, Fil.ent]⟩
theorem find_two (fs : List Fil) (n : List UInt8) (h : isNm n = false) : (if isNm n then (fndK Fil.nm n fs).map fun f => (⟨f.g, 0, none⟩ : Addr) else none) = none := by rw [h]; rfl
theorem find_five {fs : List Fil} {n : List UInt8} (h0 : isNm n = true) (h : fndK Fil.nm n fs = none) : (if isNm n then (fndK Fil.nm n fs).map fun f => (⟨f.g, 0, none⟩ : Addr) else none) = none := by rw [h0, h]; rfl
theorem find_zero {fs : List Fil} {n : List UInt8} {f : Fil} (h0 : isNm n = true) (h : fndK Fil.nm n fs = some f) : (if isNm n then (fndK Fil.nm n fs).map fun f => (⟨f.g, 0, none⟩ : Addr) else none) = some ⟨f.g, 0, none⟩ := by rw [h0, h]; rfl
theorem read_c {S : Nat → Prop} {v : Value} {q : Nat} {E : List Ent} (n : List UInt8) (w : World) (h : DkS S w v q E) (hn : n.length ≤ maxLen) :
    Calls Tryz.prog 41 #[v, .string (str n)] w fun R w' => R = .returned (.tuple #[.string (str (rd E n)), .int .i64 (eFind E n)]) ∧ Below w.heap.size w w' := by
  obtain ⟨gd, m, fs, rfl, hd, hE, hS⟩ := h
  have hc := find_c n w hd hn
  rw [hE] at hc
  rcases ways fs hE n with ⟨h1, h2, h3, _⟩ | ⟨h1, h2, _, h3, h4, _⟩ | ⟨f, h1, h2, _, h3, h4, _⟩
  · rw [find_two fs n h1, h2] at hc
    rw [h2, h3]
    clear hE hd hS h1 h2 h3
    go_enter Tryz.func41, Tryz.ntmps41
    go_wp2_with fail
    refine hc.mono ?_
    rintro E w1 ⟨rfl, hb⟩
    go_wp2
    go_ret2
    exact ⟨rfl, hb⟩
  · rw [find_five h1 h2, h3] at hc
    rw [h3, h4]
    clear hE hd hS h1 h2 h3 h4
    go_enter Tryz.func41, Tryz.ntmps41
    go_wp2_with fail
    refine hc.mono ?_
    rintro E w1 ⟨rfl, hb⟩
    go_wp2
    go_ret2
    exact ⟨rfl, hb⟩
  · rw [find_zero h1 h2, h3] at hc
    rw [h3, h4]
    have hf := hd.fil f (fndK_some h2).1
    have HF := Lib.hid hf
    clear hE hd hS h1 h2 h3 h4 hf
    go_enter Tryz.func41, Tryz.ntmps41
    go_wp2_with fail
    refine hc.mono ?_
    rintro E w1 ⟨rfl, hb⟩
    have hf1 := HF.out.tu (S := fun _ => False) (.new hb) (fun _ _ h => h)
    have c0 : w1.cell? ⟨f.g, 0, none⟩ = some (.slice f.ao f.bs.length f.cap) := by rw [hf1.blk.cell]; rfl
    have hcv := row_str hf1.row
    go_wp2
    go_ret2
    exact ⟨rfl, hb⟩
def NewPost (n : Int) (w : World) (R : Ending) (w' : World) : Prop := Below w.heap.size w w' ∧
  ((1 ≤ n ∧ n ≤ 1048576 ∧ ∃ v, R = .returned v ∧ DkS (fun x => w.heap.size ≤ x) w' v n.toNat []) ∨ ((n < 1 ∨ 1048576 < n) ∧ R = .returned (.pointer none)))
theorem new_c (n : Int) (w : World) : Calls Tryz.prog 10 #[.int .i64 n] w (NewPost n w) := by
  have hmm := @run_makeMap Tryz.prog
  by_cases h1 : n < 1
  · go_enter Tryz.func10, Tryz.ntmps10
    go_wp2
    go_ret
    exact ⟨Below.refl _ _, .inr ⟨.inl h1, rfl⟩⟩
  by_cases h2 : 1048576 < n
  · go_enter Tryz.func10, Tryz.ntmps10
    go_wp2
    go_ret
    exact ⟨Below.refl _ _, .inr ⟨.inr h2, rfl⟩⟩
  obtain ⟨k, rfl⟩ : ∃ k : Nat, n = (k : Int) := ⟨n.toNat, by omega⟩
  go_enter Tryz.func10, Tryz.ntmps10
  go_wp2
  go_ret
  refine ⟨(below_alloc w _).trans ((below_alloc _ _).mono (by simp)), .inl ⟨by omega, by omega, _, rfl, w.heap.size + 1, w.heap.size, [], by simp, ⟨⟨?_, ?_, by simp, List.Pairwise.nil⟩, ?_⟩, rfl, ?_⟩⟩
  · have := Cells.made (w.alloc (.map #[] 0)) 82 #[.int .i64 k, .map (some w.heap.size)]
    simpa using this
  · exact (World.ownsMap_made w Tryz.prog 9 DRf).alloc _
  · exact ⟨by simp; omega, by simp; omega, List.Pairwise.nil, by simp, by simp, by simp, by simp, by simp [used]⟩
  · rintro x (rfl | rfl | ⟨f, hf, _⟩)
    · show w.heap.size ≤ _; omega
    · exact Nat.le_refl _
    · cases hf
end Go.Proofs.YtgeaacabpnepmaaGreatDoor
/- The tables by which contracts of the library are laid at this program: of each number of theirs the program's own. Written by a tool for this seat alone. -/
namespace Go.Proofs.YtgeaacabpnepmaaGreatDoor
open Go.Shelf
def Tryz.keysA_ren : Go.Shelf.Ren := ⟨fun | 7 => 128 | 10 => 183 | n => n, fun | 23 => 80 | 26 => 9 | 3 => 180 | 28 => 212 | 0 => 0 | 27 => 211 | 33 => 228 | 4 => 4 | n => n, fun | n => n⟩
theorem Tryz.keysA : Go.Proofs.SlLaysZ.n7 Tryz.prog Tryz.keysA_ren := {
  mixed := by kernel_rfl
  f7 := ⟨Tryz.f128.name, by decide, Tryz.func128.trans (congrArg some (by kernel_rfl))⟩
  f10 := ⟨Tryz.f183.name, by decide, Tryz.func183.trans (congrArg some (by kernel_rfl))⟩
  t0 := Tryz.underlying0
  a0 := Tryz.isAgg0
  z0 := Tryz.sizeOf0
  v0 := Tryz.zeroValue0
  t4 := Tryz.underlying4
  a4 := Tryz.isAgg4
  z4 := Tryz.sizeOf4
  v4 := Tryz.zeroValue4
  t23 := Tryz.underlying80
  a23 := Tryz.isAgg80
  z23 := Tryz.sizeOf80
  v23 := Tryz.zeroValue80
  t26 := Tryz.underlying9
  a26 := Tryz.isAgg9
  z26 := Tryz.sizeOf9
  v26 := Tryz.zeroValue9
  t27 := Tryz.underlying211
  a27 := Tryz.isAgg211
  z27 := Tryz.sizeOf211
  v27 := Tryz.zeroValue211
  t28 := Tryz.underlying212
  a28 := Tryz.isAgg212
  z28 := Tryz.sizeOf212
  v28 := Tryz.zeroValue212
  t33 := Tryz.underlying228
  a33 := Tryz.isAgg228
  z33 := Tryz.sizeOf228
  v33 := Tryz.zeroValue228 }
def Tryz.sortedA_ren : Go.Shelf.Ren := ⟨fun | 6 => 127 | 8 => 181 | 9 => 182 | 11 => 213 | 13 => 215 | 12 => 214 | 23 => 256 | 24 => 257 | 14 => 247 | 15 => 248 | 16 => 249 | 17 => 250 | 18 => 251 | 19 => 252 | 20 => 253 | 21 => 254 | 22 => 255 | 25 => 284 | 26 => 285 | 27 => 286 | 28 => 287 | 29 => 288 | 30 => 289 | 31 => 309 | n => n, fun | 26 => 9 | 28 => 212 | 24 => 78 | 0 => 0 | 3 => 3 | 37 => 286 | 48 => 146 | 50 => 37 | 4 => 4 | 40 => 324 | 39 => 323 | 45 => 329 | 5 => 5 | 9 => 9 | 51 => 364 | 55 => 337 | 57 => 379 | 58 => 186 | 33 => 228 | n => n, fun | n => n⟩
theorem Tryz.sortedA : Go.Proofs.SlLaysZ.n6 Tryz.prog Tryz.sortedA_ren := {
  mixed := by kernel_rfl
  f6 := ⟨Tryz.f127.name, by decide, Tryz.func127.trans (congrArg some (by kernel_rfl))⟩
  f8 := ⟨Tryz.f181.name, by decide, Tryz.func181.trans (congrArg some (by kernel_rfl))⟩
  f11 := ⟨Tryz.f213.name, by decide, Tryz.func213.trans (congrArg some (by kernel_rfl))⟩
  t0 := Tryz.underlying0
  a0 := Tryz.isAgg0
  z0 := Tryz.sizeOf0
  v0 := Tryz.zeroValue0
  t24 := Tryz.underlying78
  a24 := Tryz.isAgg78
  z24 := Tryz.sizeOf78
  v24 := Tryz.zeroValue78
  t26 := Tryz.underlying9
  a26 := Tryz.isAgg9
  z26 := Tryz.sizeOf9
  v26 := Tryz.zeroValue9
  t28 := Tryz.underlying212
  a28 := Tryz.isAgg212
  z28 := Tryz.sizeOf212
  v28 := Tryz.zeroValue212
  i26 := by kernel_rfl }
def Tryz.sortA_ren : Go.Shelf.Ren := ⟨fun | 6 => 182 | 8 => 215 | 9 => 214 | 19 => 256 | 20 => 257 | 21 => 247 | 22 => 248 | 23 => 249 | 24 => 250 | 25 => 251 | 26 => 252 | 27 => 253 | 28 => 254 | 29 => 255 | 36 => 284 | 31 => 285 | 32 => 286 | 37 => 287 | 38 => 288 | 39 => 289 | 41 => 309 | n => n, fun | 27 => 78 | 29 => 9 | 3 => 3 | 32 => 286 | 26 => 78 | 0 => 0 | 44 => 146 | 46 => 37 | 4 => 4 | 36 => 324 | 35 => 323 | 41 => 329 | 5 => 5 | 9 => 9 | 53 => 364 | 57 => 337 | 63 => 379 | 64 => 186 | n => n, fun | n => n⟩
theorem Tryz.sortA : Go.Proofs.SlLaysM.n6 Tryz.prog Tryz.sortA_ren := {
  mixed := by kernel_rfl
  f6 := ⟨Tryz.f182.name, by decide, Tryz.func182.trans (congrArg some (by kernel_rfl))⟩
  f8 := Tryz.func215.trans (congrArg some (by kernel_rfl))
  f9 := ⟨Tryz.f214.name, by decide, Tryz.func214.trans (congrArg some (by kernel_rfl))⟩
  f19 := Tryz.func256.trans (congrArg some (by kernel_rfl))
  f20 := Tryz.func257.trans (congrArg some (by kernel_rfl))
  f21 := ⟨Tryz.f247.name, by decide, Tryz.func247.trans (congrArg some (by kernel_rfl))⟩
  f22 := ⟨Tryz.f248.name, by decide, Tryz.func248.trans (congrArg some (by kernel_rfl))⟩
  f23 := ⟨Tryz.f249.name, by decide, Tryz.func249.trans (congrArg some (by kernel_rfl))⟩
  f24 := ⟨Tryz.f250.name, by decide, Tryz.func250.trans (congrArg some (by kernel_rfl))⟩
  f25 := ⟨Tryz.f251.name, by decide, Tryz.func251.trans (congrArg some (by kernel_rfl))⟩
  f26 := ⟨Tryz.f252.name, by decide, Tryz.func252.trans (congrArg some (by kernel_rfl))⟩
  f27 := ⟨Tryz.f253.name, by decide, Tryz.func253.trans (congrArg some (by kernel_rfl))⟩
  f28 := ⟨Tryz.f254.name, by decide, Tryz.func254.trans (congrArg some (by kernel_rfl))⟩
  f29 := ⟨Tryz.f255.name, by decide, Tryz.func255.trans (congrArg some (by kernel_rfl))⟩
  f31 := Tryz.func285.trans (congrArg some (by kernel_rfl))
  f32 := Tryz.func286.trans (congrArg some (by kernel_rfl))
  f36 := ⟨Tryz.f284.name, by decide, Tryz.func284.trans (congrArg some (by kernel_rfl))⟩
  f37 := ⟨Tryz.f287.name, by decide, Tryz.func287.trans (congrArg some (by kernel_rfl))⟩
  f38 := ⟨Tryz.f288.name, by decide, Tryz.func288.trans (congrArg some (by kernel_rfl))⟩
  f39 := ⟨Tryz.f289.name, by decide, Tryz.func289.trans (congrArg some (by kernel_rfl))⟩
  f41 := ⟨Tryz.f309.name, by decide, Tryz.func309.trans (congrArg some (by kernel_rfl))⟩
  t0 := Tryz.underlying0
  a0 := Tryz.isAgg0
  z0 := Tryz.sizeOf0
  v0 := Tryz.zeroValue0
  t3 := Tryz.underlying3
  a3 := Tryz.isAgg3
  z3 := Tryz.sizeOf3
  v3 := Tryz.zeroValue3
  t4 := Tryz.underlying4
  a4 := Tryz.isAgg4
  z4 := Tryz.sizeOf4
  v4 := Tryz.zeroValue4
  t5 := Tryz.underlying5
  a5 := Tryz.isAgg5
  z5 := Tryz.sizeOf5
  v5 := Tryz.zeroValue5
  t9 := Tryz.underlying9
  a9 := Tryz.isAgg9
  z9 := Tryz.sizeOf9
  v9 := Tryz.zeroValue9
  t26 := Tryz.underlying78
  a26 := Tryz.isAgg78
  z26 := Tryz.sizeOf78
  v26 := Tryz.zeroValue78
  t27 := Tryz.underlying78
  a27 := Tryz.isAgg78
  z27 := Tryz.sizeOf78
  v27 := Tryz.zeroValue78
  t29 := Tryz.underlying9
  a29 := Tryz.isAgg9
  z29 := Tryz.sizeOf9
  v29 := Tryz.zeroValue9
  t32 := Tryz.underlying286
  a32 := Tryz.isAgg286
  z32 := Tryz.sizeOf286
  v32 := Tryz.zeroValue286
  t35 := Tryz.underlying323
  a35 := Tryz.isAgg323
  z35 := Tryz.sizeOf323
  v35 := Tryz.zeroValue323
  t36 := Tryz.underlying324
  a36 := Tryz.isAgg324
  z36 := Tryz.sizeOf324
  v36 := Tryz.zeroValue324
  t41 := Tryz.underlying329
  a41 := Tryz.isAgg329
  z41 := Tryz.sizeOf329
  v41 := Tryz.zeroValue329
  t44 := Tryz.underlying146
  a44 := Tryz.isAgg146
  z44 := Tryz.sizeOf146
  v44 := Tryz.zeroValue146
  t46 := Tryz.underlying37
  a46 := Tryz.isAgg37
  z46 := Tryz.sizeOf37
  v46 := Tryz.zeroValue37
  t53 := Tryz.underlying364
  a53 := Tryz.isAgg364
  z53 := Tryz.sizeOf364
  v53 := Tryz.zeroValue364
  t57 := Tryz.underlying337
  a57 := Tryz.isAgg337
  z57 := Tryz.sizeOf337
  v57 := Tryz.zeroValue337
  t63 := Tryz.underlying379
  a63 := Tryz.isAgg379
  z63 := Tryz.sizeOf379
  v63 := Tryz.zeroValue379
  t64 := Tryz.underlying186
  a64 := Tryz.isAgg186
  z64 := Tryz.sizeOf186
  v64 := Tryz.zeroValue186 }
def Tryz.cloneA_ren : Go.Shelf.Ren := ⟨fun | 25 => 303 | n => n, fun | 9 => 9 | 3 => 3 | 4 => 4 | 37 => 181 | 0 => 0 | 47 => 343 | 5 => 5 | n => n, fun | n => n⟩
theorem Tryz.cloneA : Go.Proofs.LaysPu.n25 Tryz.prog Tryz.cloneA_ren := {
  mixed := by kernel_rfl
  f25 := Tryz.func303.trans (congrArg some (by kernel_rfl))
  t0 := Tryz.underlying0
  a0 := Tryz.isAgg0
  z0 := Tryz.sizeOf0
  v0 := Tryz.zeroValue0
  i0 := by kernel_rfl
  t3 := Tryz.underlying3
  a3 := Tryz.isAgg3
  z3 := Tryz.sizeOf3
  v3 := Tryz.zeroValue3
  i3 := by kernel_rfl
  t4 := Tryz.underlying4
  a4 := Tryz.isAgg4
  z4 := Tryz.sizeOf4
  v4 := Tryz.zeroValue4
  i4 := by kernel_rfl
  t5 := Tryz.underlying5
  a5 := Tryz.isAgg5
  z5 := Tryz.sizeOf5
  v5 := Tryz.zeroValue5
  i5 := by kernel_rfl
  t9 := Tryz.underlying9
  a9 := Tryz.isAgg9
  z9 := Tryz.sizeOf9
  v9 := Tryz.zeroValue9
  i9 := by kernel_rfl
  t37 := Tryz.underlying181
  a37 := Tryz.isAgg181
  z37 := Tryz.sizeOf181
  v37 := Tryz.zeroValue181
  i37 := by kernel_rfl
  t47 := Tryz.underlying343
  a47 := Tryz.isAgg343
  z47 := Tryz.sizeOf343
  v47 := Tryz.zeroValue343
  i47 := by kernel_rfl }
end Go.Proofs.YtgeaacabpnepmaaGreatDoor
/- The names of a disk's files, sorted, and its range function: what it hands back; it goes through the files in the order of their names, for every loop's body that keeps the disk's struct and map. -/
namespace Go.Proofs.YtgeaacabpnepmaaGreatDoor
open Go.RowKit Go.Shelf Go.Maps Go.Sort
set_option linter.unusedVariables false
set_option maxRecDepth 100000
attribute [local go_sem] Oper.semAt_some

theorem sortsA (m : Nat) : AnyZ.SortsIn Tryz.prog Tryz.sortedA_ren Fence.wide m :=
  ⟨fun blk off cap ss W hH hblk hsz => callsIn_wide.2 (AnyM.slices_Sort_string Tryz.sortA blk off cap ss W hH hblk hsz),
   fun p cap W => callsIn_wide.2 (AnyM.slices_Sort_string_none Tryz.sortA p cap W)⟩
theorem keys_c (n : Nat) (mb : Option Nat) (W : World) : CallsIn Fence.wide n Tryz.prog 128 #[.map mb] W fun e w' => e = .returned (.func (.func 183) #[] #[.pointer (some ⟨W.heap.size, 0, none⟩)]) ∧ w' = W.alloc (.cells #[.map mb] 80) :=
  AnyZ.keys_in Tryz.keysA Fence.wide n trivial rfl mb W
theorem sorted_c (n b : Nat) (fs : List Fil) (hn : 4 ≤ n) (w : World) (hown : w.ownsMap Tryz.prog 9 DRf b fs.length (dmap fs)) (hs : Srt Fil.nm fs) (hl : fs.length ≤ 1000) :
    CallsIn Fence.wide n Tryz.prog 127 #[.func (.func 183) #[] #[.pointer (some ⟨w.heap.size, 0, none⟩)]] (w.alloc (.cells #[.map (some b)] 80)) fun e w' =>
      ∃ (v : Value), e = .returned v ∧ w'.ownsRow 0 9 1 v fs.length (fs.map fun f => .string (str f.nm)) ∧ (v = .slice none 0 0 ↔ fs = []) ∧ Below w.heap.size w w' ∧ ∀ x, v.ownBlock = some x → w.heap.size ≤ x := by
  have hbl := hown.lt
  have hseq : SeqGives Fence.wide (n - 1 - 1 - 1) Tryz.prog 183 #[.pointer (some ⟨w.heap.size, 0, none⟩)] encStr (fun ss => ss.Perm (strKeys (dmap fs))) (Maps.size (dmap fs)) (w.alloc (.cells #[.map (some b)] 80)) :=
    AnyZ.keys_gives (ρ := Tryz.keysA_ren) { Tryz.keysA with } Fence.wide _ trivial rfl (by omega) w.heap.size b fs.length (dmap fs) _ (by simp) (by simp) (by
      obtain ⟨es, clock, hb, Ft, hs, hD⟩ := hown
      exact ⟨es, clock, (Below.heap_alloc _ _ b hbl).trans hb, Ft, hs, hD⟩)
  have cS := AnyZ.sorted_in Tryz.sortedA Fence.wide n trivial trivial trivial trivial rfl (by omega) (sortsA _) (enters_of Tryz.func182 (by kernel_rfl) rfl) 183 #[.pointer (some ⟨w.heap.size, 0, none⟩)] trivial (enters_of Tryz.func183 (by kernel_rfl) rfl) _ _ (by rw [dat_size]; unfold maxLen; omega) (by rw [dat_size]; omega) _ hseq
  refine CallsIn.mono cS ?_
  rintro e w' ⟨v, ss, rfl, hS, hrow, hnil, hb⟩
  rw [dat_keys] at hS
  have hss := srt_perm_keys hs hS
  have hlen : ss.length = fs.length := by rw [hS.length_eq, List.length_map]
  rw [hss, hlen, List.map_map] at hrow
  refine ⟨v, rfl, ownsRow_base_a hrow (Nat.zero_le _), ?_, (below_alloc w _).trans (hb.mono (by simp)), fun x hx => ?_⟩
  · rw [hnil]
    constructor
    · rintro rfl; exact List.length_eq_zero_iff.1 hlen.symm
    · rintro rfl; exact List.length_eq_zero_iff.1 hlen
  · have := (hrow.lt x hx).1
    simp at this
    omega
theorem inOrder_c (p : Option Addr) (w : World) :
    Calls Tryz.prog 85 #[.pointer p] w fun E w' => E = .returned (.func (.func 126) #[] #[.pointer (some ⟨w.heap.size, 0, none⟩)]) ∧ w.alloc (.cells #[.pointer p] 28) = w' := by
  go_enter Tryz.func85, Tryz.ntmps85
  go_wp2
  go_ret
  exact ⟨rfl, rfl⟩
abbrev Itm (fs : List Fil) := { f : Fil // f ∈ fs }
abbrev encI {fs : List Fil} (x : Itm fs) : Array Value := #[.string (str x.1.nm), .pointer (some ⟨x.1.g, 0, none⟩)]
def Safe (n₀ bx : Nat) (W : World) (x : Nat) (t : TypeId) (cs : Array Value) : Prop :=
  n₀ ≤ x ∧ Cells W x t cs ∧ ∀ a n c, W.cell? ⟨bx, 0, none⟩ = some (.slice (some a) n c) → a.block ≠ x
structure Kq (gd m Bn n₀ bx : Nat) (W W' : World) : Prop where
  size : W.heap.size ≤ W'.heap.size
  one : W'.heap[gd]? = W.heap[gd]?
  two : W'.heap[m]? = W.heap[m]?
  box : W'.heap[Bn]? = W.heap[Bn]?
  row : ∀ x t cs, Safe n₀ bx W x t cs → Safe n₀ bx W' x t cs
section
variable {gd m Bn n₀ bx : Nat} {W W' W'' : World}
theorem Kq.trans (h : Kq gd m Bn n₀ bx W W') (k : Kq gd m Bn n₀ bx W' W'') : Kq gd m Bn n₀ bx W W'' :=
  ⟨Nat.le_trans h.size k.size, k.one.trans h.one, k.two.trans h.two, k.box.trans h.box, fun x t cs hx => k.row x t cs (h.row x t cs hx)⟩
theorem Kq.put {w : World} (hg : gd < w.heap.size) (hm : m < w.heap.size) (hB : Bn < w.heap.size) (hx : bx < w.heap.size) (W : World) (l : Nat) (o o' : Obj) (hl : w.heap.size ≤ l) (h : W.heap[l]? = some o) (hc : o.isCells = false) (_ : o.isWalk = false) : Kq gd m Bn n₀ bx W (W.putObj l o') := by
  have hlt : l < W.heap.size := (Array.getElem?_eq_some_iff.1 h).1
  refine ⟨(grownBy_putObj' W l o').size, World.putObj_heap_other (by omega), World.putObj_heap_other (by omega), World.putObj_heap_other (by omega), fun x t cs hx => ?_⟩
  obtain ⟨h1, h2, h3⟩ := hx
  have hne : x ≠ l := by rintro rfl; unfold Cells at h2; rw [h2] at h; cases h; cases hc
  refine ⟨h1, (World.putObj_heap_other hne).trans h2, fun a n c ha => h3 a n c ?_⟩
  rw [← ha]
  exact (World.cell?_of_block (World.putObj_heap_other (show (⟨bx, 0, none⟩ : Addr).block ≠ l by show bx ≠ l; omega))).symm
theorem Kq.of_tu {S : Nat → Prop} (h : Tu S W W') (hg : gd < W.heap.size) (hm : m < W.heap.size) (hB : Bn < W.heap.size) (h1 : ¬ S gd) (h2 : ¬ S m) (h3 : ¬ S Bn)
    (h4 : ∀ x t cs, Safe n₀ bx W x t cs → ¬ S x ∧ ∀ a n c, W'.cell? ⟨bx, 0, none⟩ = some (.slice (some a) n c) → a.block ≠ x) : Kq gd m Bn n₀ bx W W' :=
  ⟨h.size, h.block _ hg h1, h.block _ hm h2, h.block _ hB h3, fun x t cs hx => ⟨hx.1, hx.2.1.tu h (h4 x t cs hx).1, (h4 x t cs hx).2⟩⟩
end
structure Dn (w : World) (gd m q : Nat) (fs : List Fil) : Prop where
  blk : Cells w gd 82 #[.int .i64 q, .map (some m)]
  map : w.ownsMap Tryz.prog 9 DRf m fs.length (dmap fs)
theorem Dj.dn {w : World} {gd m q : Nat} {fs : List Fil} (h : Dj w gd m q fs) : Dn w gd m q fs := ⟨h.blk, h.map⟩
section
variable {gd m q Bn n₀ : Nat} {W W' : World} {fs : List Fil}
theorem Dn.kept {bx : Nat} (h : Dn W gd m q fs) (k : Kq gd m Bn n₀ bx W W') : Dn W' gd m q fs := by
  refine ⟨k.one.trans h.blk, ?_⟩
  obtain ⟨es, clock, hb, r⟩ := h.map
  exact ⟨es, clock, k.two.trans hb, r⟩
theorem Dn.below {B : Nat} (h : Dn W gd m q fs) (k : Below B W W') (hg : gd < B) (hm : m < B) : Dn W' gd m q fs := by
  refine ⟨h.blk.below k hg, ?_⟩
  obtain ⟨es, clock, hb, r⟩ := h.map
  exact ⟨es, clock, (k.block m hm).trans hb, r⟩
theorem Dn.look (h : Dn W gd m q fs) (n : List UInt8) (hn : n.length ≤ maxLen) :
    (Instr.lookup 80 (.map (some m)) (.string (str n)) false).run Tryz.prog W = .ok (.pointer ((fndK Fil.nm n fs).map fun f => ⟨f.g, 0, none⟩)) W := by
  have hz : (zeroValue 180).run Tryz.prog W = .ok (.pointer none) W := by simp [Tryz.zeroValue180]
  obtain ⟨v, ps, hr, hv⟩ := h.map.lookup key_str Tryz.underlying80 hz (zd := .nil) (zp := []) rfl (key_of n hn)
  rw [dat_at] at hv
  rw [hr]
  cases hf : fndK Fil.nm n fs with
  | none => rw [hf] at hv; rw [DRf_nil hv]; rfl
  | some f => rw [hf] at hv; rw [DRf_ptr hv]; rfl
end
theorem grown_none {w w' : World} (h : Below w.heap.size w w') : w.grownBy w' none := ⟨h.os, h.tape, h.output, h.size, fun k hk _ => h.block k hk⟩
def InRel (gd m q Bn n₀ bx : Nat) (fs : List Fil) (vs : Value) (J : List (Itm fs) → World → Prop) (i : Value) (wr : World) : Prop :=
  ∃ (pre : List (Itm fs)) (k : Nat), i = .int .i64 k ∧ k ≤ fs.length ∧ pre.map Subtype.val = fs.take k ∧ Dn wr gd m q fs ∧ Cells wr Bn 28 #[.pointer (some ⟨gd, 0, none⟩)] ∧
    (∀ b, vs.ownBlock = some b → ∃ cs, Safe n₀ bx wr b 9 cs ∧ ∀ j (h : j < fs.length), cs[j]? = some (.string (str (fs[j]'h).nm))) ∧ J pre wr

theorem row_form {w : World} {base : Nat} {e : TypeId} {size n : Nat} {v : Value} {xs : List Value} (h : w.ownsRow base e size v n xs) : ∃ ao cap, v = .slice ao n cap ∧ n ≤ cap := by
  rcases h.2 with ⟨rfl, h0⟩ | ⟨g, cap, cur, rfl, _, _, hn, _⟩
  · exact ⟨none, 0, by rw [h0], by omega⟩
  · exact ⟨_, cap, rfl, hn⟩
theorem row_cells {w : World} {base : Nat} {e : TypeId} {n : Nat} {v : Value} {xs : List Value} (h : w.ownsRow base e 1 v n xs) {b : Nat} (hb : v.ownBlock = some b) : ∃ cs : Array Value, Cells w b e cs ∧ ∀ (j : Nat) (u : Value), xs[j]? = some u → cs[j]? = some u := by
  rcases h.2 with ⟨rfl, _⟩ | ⟨g, cap, cur, rfl, _, hg, _, _, _, ht⟩
  · simp [Value.ownBlock] at hb
  · obtain rfl : g = b := by simpa [Value.ownBlock] using hb
    refine ⟨cur, hg, fun j u hu => ?_⟩
    rw [← ht, List.getElem?_take] at hu
    split at hu
    · simpa using hu
    · cases hu
set_option maxHeartbeats 2000000 in
theorem inOrder1_in (n : Nat) (hn : 6 ≤ n) (l0 gd m q Bn n₀ bx : Nat) (fs : List Fil) (hs : Srt Fil.nm fs) (hfl : fs.length ≤ 1000) (hnl : ∀ f ∈ fs, f.nm.length ≤ 1000) (J Jx : List (Itm fs) → World → Prop)
    (W : World) (hJ : AbidesFrom W.heap.size J) (hn₀ : n₀ ≤ W.heap.size) (hbx : bx < W.heap.size) (hbn : ∀ a n c, W.cell? ⟨bx, 0, none⟩ = some (.slice (some a) n c) → a.block < n₀)
    (hY : ∀ pre x W, J pre W → pre.length < fs.length → YieldAt Fence.wide (n - 1) Tryz.prog l0 (encI x) W fun e W' =>
      (e = .returned (.bool true) ∧ J (pre ++ [x]) W' ∧ Kq gd m Bn n₀ bx W W') ∨ (e = .returned (.bool false) ∧ Jx (pre ++ [x]) W'))
    (hd : Dn W gd m q fs) (hg : gd < W.heap.size) (hm : m < W.heap.size) (hB : Cells W Bn 28 #[.pointer (some ⟨gd, 0, none⟩)]) (h0 : J [] W) :
    CallsIn Fence.wide n Tryz.prog 126 #[.func (.yield l0) #[] #[], .pointer (some ⟨Bn, 0, none⟩)] W fun e W' => (∃ v, e = .returned v) ∧
      ((∃ ys, ys.map Subtype.val = fs ∧ J ys W') ∨ (∃ pre, pre.map Subtype.val <+: fs ∧ Jx pre W')) := by
  have HJ := Lib.hid hJ
  have HY := Lib.hid hY
  have H0 := Lib.hid h0
  have HD := Lib.hid hd
  have HS := Lib.hid hs
  have HB := Lib.hid hB
  have HNL := Lib.hid hnl
  have c1 : W.cell? ⟨gd, 1, none⟩ = some (.map (some m)) := by rw [hd.blk.cell]; rfl
  have c0 : W.cell? ⟨Bn, 0, none⟩ = some (.pointer (some ⟨gd, 0, none⟩)) := by rw [hB.cell]; rfl
  have cK := keys_c (n - 1) (some m) W
  have cS := sorted_c (n - 1) m fs (by omega) W hd.map hs hfl
  have hBl := hB.lt
  clear hJ hY h0 hd hs hB hnl
  have h1n : 1 ≤ n := by omega
  have hfK : Fence.wide.fn 128 := trivial
  have hfS : Fence.wide.fn 127 := trivial
  refine callsIn_of_wp Tryz.func126 rfl trivial ?_ rfl
  simp only [Tryz.ntmps126, List.size_toArray, List.length_cons, List.length_nil, Nat.reduceAdd, Nat.reduceSub, Array.replicate_succ, Array.replicate_zero, List.push_toArray, List.append_toArray, List.nil_append, List.cons_append]
  gi_wp2_with (first
    | (gi_at_call 128; refine cK.mono ?_; rintro e w' ⟨rfl, rfl⟩)
    | (gi_at_call 127; refine cS.mono ?_; rintro e w2 ⟨v, rfl, hrow, hnil, hb, hown⟩; obtain ⟨ao, cap, rfl, hcap⟩ := row_form hrow))
  have HR := Lib.hid (show ∀ b, (Value.slice ao fs.length cap).ownBlock = some b → ∃ cs, Safe n₀ bx w2 b 9 cs ∧ ∀ j (h : j < fs.length), cs[j]? = some (.string (str (fs[j]'h).nm)) from fun b hbb => by
    obtain ⟨cs, h1, h2⟩ := row_cells hrow hbb
    have hge := hown b hbb
    refine ⟨cs, ⟨Nat.le_trans hn₀ hge, h1, fun a n c ha => ?_⟩, fun j hj => h2 j _ (by simp [hj])⟩
    rw [hb.cell (p := ⟨bx, 0, none⟩) hbx] at ha
    have := hbn a n c ha
    omega)
  have HA := Lib.hid (show fs = [] ∨ ∃ g, ao = some ⟨g, 0, none⟩ from by
    rcases hrow.2 with ⟨he, h0⟩ | ⟨g, _, _, he, _⟩
    · exact .inl (List.length_eq_zero_iff.1 h0)
    · injection he with e1; exact .inr ⟨g, e1⟩)
  have HO := Lib.hid hown
  have HD2 := Lib.hid (HD.out.below hb hg hm)
  have HB2 := Lib.hid (HB.out.below hb hBl)
  have HJ2 := Lib.hid (HJ.out [] W w2 none H0.out (grown_none hb) (fun r e => by cases e))
  clear hrow hnil hown hb cK cS c0 c1
  gi_loopw [14] (fun i wr => InRel gd m q Bn n₀ bx fs (.slice ao fs.length cap) J i wr) (fun i _ => fs.length - (intOf i).toNat)
  case atStart => exact ⟨[], 0, rfl, Nat.zero_le _, rfl, HD2.out, HB2.out, HR.out, HJ2.out⟩
  case round =>
    obtain ⟨pre, k, rfl, hk, hpre, hd, hB, hr, hJs⟩ := hrel
    have HPRE := Lib.hid hpre
    have HD3 := Lib.hid hd
    have HB3 := Lib.hid hB
    have HR3 := Lib.hid hr
    have HJ3 := Lib.hid hJs
    clear hpre hr hJs
    by_cases hlt : k < fs.length
    · obtain ⟨b, rfl⟩ : ∃ g, ao = some ⟨g, 0, none⟩ := by
        rcases HA.out with h | h
        · subst h; cases hlt
        · exact h
      obtain ⟨cs, hcs, hj⟩ := HR3.out b rfl
      obtain ⟨x, hx⟩ : ∃ x : Itm fs, x.1 = fs[k]'hlt := ⟨⟨_, List.getElem_mem hlt⟩, rfl⟩
      have hcell : wr.cell? ⟨b, k, none⟩ = some (.string (str x.1.nm)) := by rw [hcs.2.1.cell, hx]; exact hj k hlt
      have hlk := hd.look x.1.nm (by have := HNL.out _ x.2; unfold maxLen; omega)
      rw [fndK_of_mem HS.out x.2] at hlk
      simp only [Option.map_some] at hlk
      have c1 : wr.cell? ⟨gd, 1, none⟩ = some (.map (some m)) := by rw [hd.blk.cell]; rfl
      have c0 : wr.cell? ⟨Bn, 0, none⟩ = some (.pointer (some ⟨gd, 0, none⟩)) := by rw [hB.cell]; rfl
      have hplen : pre.length < fs.length := by have := congrArg List.length HPRE.out; simp at this; omega
      have HPN : Hid ((pre ++ [x]).map Subtype.val = fs.take (k + 1)) := by
        show _ = _
        rw [List.map_append, HPRE.out, List.take_succ_eq_append_getElem hlt, ← hx]; rfl
      obtain ⟨fn0, tmps, assign, body, hy, hR⟩ := HY.out pre x wr HJ3.out hplen
      have HCS := Lib.hid hcs
      have HJJ := Lib.hid hj
      clear hd hB hcs hj hplen hx
      dsimp only [encI] at hy
      gi_wp2
      refine hR.mono ?_
      rintro E w3 (⟨rfl, hJ4, hk4⟩ | ⟨rfl, hJx4⟩)
      · have HK4 := Lib.hid hk4
        have HJ4 := Lib.hid hJ4
        clear hk4 hJ4
        gi_wp2
        go_roundw
        case rel => exact ⟨_, k + 1, by go_num, by omega, HPN.out, HD3.out.kept HK4.out, HK4.out.box.trans HB3.out, fun b' hb' => by cases hb'; exact ⟨cs, HK4.out.row b _ cs HCS.out, HJJ.out⟩, HJ4.out⟩
        case measure => simp [intOf]; omega
      · gi_wp2
        refine bodyPost_ret (results_none rfl _ _ _) rfl ?_
        exact ⟨⟨_, rfl⟩, .inr ⟨_, by rw [HPN.out]; exact List.take_prefix _ _, hJx4⟩⟩
    · have hx : k = fs.length := by omega
      have HX := Lib.hid hx
      clear hx
      gi_wp2
      go_end0
      exact ⟨⟨_, rfl⟩, .inl ⟨pre, by rw [HPRE.out, HX.out, List.take_length], HJ3.out⟩⟩
theorem inOrder_stops (n : Nat) (hn : 6 ≤ n) (gd m q Bn n₀ bx : Nat) (fs : List Fil) (hs : Srt Fil.nm fs) (hfl : fs.length ≤ 1000) (hnl : ∀ f ∈ fs, f.nm.length ≤ 1000)
    (w : World) (hn₀ : n₀ ≤ w.heap.size) (hbx : bx < w.heap.size) (hbn : ∀ a n c, w.cell? ⟨bx, 0, none⟩ = some (.slice (some a) n c) → a.block < n₀)
    (hd : Dn w gd m q fs) (hB : Cells w Bn 28 #[.pointer (some ⟨gd, 0, none⟩)]) :
    SeqStopsK Fence.wide n Tryz.prog 126 #[.pointer (some ⟨Bn, 0, none⟩)] (encI (fs := fs)) (Kq gd m Bn n₀ bx) (fun ys => ys.map Subtype.val = fs) (fun pre => pre.map Subtype.val <+: fs) fs.length w := fun l J Jx W hW hJ _ hY h0 =>
  have hsz := hW.size
  inOrder1_in n hn l gd m q Bn n₀ bx fs hs hfl hnl J Jx W hJ (Nat.le_trans hn₀ hsz) (Nat.lt_of_lt_of_le hbx hsz) (fun a n c h => hbn a n c ((hW.cell (p := ⟨bx, 0, none⟩) hbx).symm.trans h)) hY
    (hd.below hW hd.blk.lt hd.map.lt) (Nat.lt_of_lt_of_le hd.blk.lt hsz) (Nat.lt_of_lt_of_le hd.map.lt hsz) (hB.below hW hB.lt) h0
end Go.Proofs.YtgeaacabpnepmaaGreatDoor
/- Used and List: loops over the range function that change nothing of the disk. -/
namespace Go.Proofs.YtgeaacabpnepmaaGreatDoor
open Go.RowKit Go.Shelf Go.Maps Go.Sort
set_option linter.unusedVariables false
set_option maxRecDepth 100000
attribute [local go_sem] Oper.semAt_some

def tot {fs : List Fil} (l : List (Itm fs)) : Nat := (l.map fun x => x.1.bs.length).sum
theorem tot_snoc {fs : List Fil} (l : List (Itm fs)) (x : Itm fs) : tot (l ++ [x]) = tot l + x.1.bs.length := by simp [tot]
theorem tot_le {fs : List Fil} (h : ∀ f ∈ fs, f.bs.length ≤ 65536) (l : List (Itm fs)) : tot l ≤ 65536 * l.length := by
  induction l with
  | nil => simp [tot]
  | cons x l ih => have := h x.1 x.2; simp [tot] at ih ⊢; omega
theorem tot_all {fs : List Fil} (l : List (Itm fs)) (h : l.map Subtype.val = fs) : tot l = used (fs.map Fil.ent) := by
  unfold tot used
  conv => rhs; rw [← h]
  simp only [List.map_map]
  rfl
theorem kq_box {gd m Bn n₀ bx : Nat} {W : World} {t : TypeId} {v : Value} (hb : Boxed W bx t v) (hg : gd < W.heap.size) (hm : m < W.heap.size) (hB : Bn < W.heap.size) (h1 : gd ≠ bx) (h2 : m ≠ bx) (h3 : Bn ≠ bx) (h4 : bx < n₀) (k : IntKind) (u : Int) :
    Kq gd m Bn n₀ bx W (W.setCell ⟨bx, 0, none⟩ (.int k u)).drew := by
  refine Kq.of_tu (S := fun x => some x = some bx) (Tu.draw (Tu.grown (grown_set W bx 0 (.int k u)))) hg hm hB (by simpa using h1) (by simpa using h2) (by simpa using h3) (fun x t cs hx => ⟨by have := hx.1; simp; omega, fun a n c e => ?_⟩)
  have := (hb.set (.int k u)).cell
  rw [show (W.setCell ⟨bx, 0, none⟩ (.int k u)).drew.cell? ⟨bx, 0, none⟩ = (W.setCell ⟨bx, 0, none⟩ (.int k u)).cell? ⟨bx, 0, none⟩ from rfl, this] at e
  cases e
def UsI (b : Nat) (w : World) (fs : List Fil) (pre : List (Itm fs)) (W : World) : Prop := Boxed W b 3 (.int .i64 (tot pre)) ∧ Below b w W
def NoX (fs : List Fil) (c : Code) (pre : List (Itm fs)) (W : World) : Prop := False
theorem noX_own (fs : List Fil) (B : Nat) (c : Code) : OwnFrom B (NoX fs c) := fun _ _ _ _ h _ _ => h.elim
theorem boxed_keep {W W' : World} {b : Nat} {t : TypeId} {v : Value} {row : Option Nat} (h : Boxed W b t v) (hg : W.grownBy W' row) (hr : ∀ r, row = some r → ∃ o : Obj, W.heap[r]? = some o ∧ o.isCells = false) : Boxed W' b t v :=
  h.kept hg (fun e => by
    obtain ⟨o, ho, hc⟩ := hr _ e.symm
    rw [show W.heap[_]? = _ from h] at ho; cases ho; cases hc)
theorem usI_own (b : Nat) (w : World) (fs : List Fil) {B : Nat} (hb : b ≤ w.heap.size) (hB : b ≤ B) : OwnFrom B (UsI b w fs) :=
  OwnFrom.and (Own.from (I := fun (s : List (Itm fs)) W => Boxed W b 3 (.int .i64 (tot s))) (fun s A C row hs hg hr => boxed_keep hs hg hr) _) (ownFrom_below hb hB)
theorem Dk.names {w : World} {gd m q : Nat} {fs : List Fil} (h : Dk w gd m q fs) : fs.length ≤ 64 ∧ (∀ f ∈ fs, f.nm.length ≤ 32) ∧ (∀ f ∈ fs, f.bs.length ≤ 65536) ∧ (∀ f ∈ fs, f.su ≤ f.bs.length) ∧ (∀ f ∈ fs, isNm f.nm = true) :=
  ⟨by have := h.good.len; simpa using this, fun f hf => isNm_len (h.good.nms f.ent (List.mem_map_of_mem hf)), fun f hf => h.good.most f.ent (List.mem_map_of_mem hf), fun f hf => h.good.sure f.ent (List.mem_map_of_mem hf), fun f hf => h.good.nms f.ent (List.mem_map_of_mem hf)⟩

set_option maxHeartbeats 2000000 in
theorem used_c {gd m q : Nat} {fs : List Fil} (w : World) (h : Dk w gd m q fs) :
    Calls Tryz.prog 39 #[.pointer (some ⟨gd, 0, none⟩)] w fun E w' => E = .returned (.int .i64 (used (fs.map Fil.ent))) ∧ Below w.heap.size w w' := by
  obtain ⟨hlen, hnl, hbl, _, _⟩ := h.names
  have HD := Lib.hid h
  have HBL := Lib.hid hbl
  have HTL := Lib.hid (fun l => tot_le hbl l)
  clear hbl
  refine (callsIn_wide (n := 12)).1 ?_
  refine callsIn_of_wp_marks Tryz.func39 rfl trivial ?_ rfl
  simp only [Tryz.ntmps39, List.size_toArray, List.length_cons, List.length_nil, Nat.reduceAdd, Nat.reduceSub, Array.replicate_succ, Array.replicate_zero, List.push_toArray, List.append_toArray, List.nil_append, List.cons_append]
  gi_wp2
  refine ⟨trivial, (callsIn_wide.2 (inOrder_c _ _)).mono ?_⟩
  rintro E w1 ⟨rfl, hw1⟩
  gi_wp2
  have hsz1 : w1.heap.size = w.heap.size + 2 := by rw [← hw1]; simp
  have hB1 : Below w.heap.size w w1 := by
    rw [← hw1]; exact ((below_alloc w _).trans ((below_alloc _ _).mono (by simp)))
  have hbx : Boxed w1 w.heap.size 3 (.int .i64 0) := by
    rw [← hw1]
    exact (Boxed.new w 3 (.int .i64 0)).alloc _
  have hcb : Cells w1 (w.heap.size + 1) 28 #[.pointer (some ⟨gd, 0, none⟩)] := by
    rw [← hw1]
    have := Cells.made (w.alloc (.cells #[.int .i64 0] 3)) 28 #[.pointer (some ⟨gd, 0, none⟩)]
    simpa using this
  have hd1 : Dk w1 gd m q fs := HD.out.new hB1
  have hgl := HD.out.blk.lt
  have hml := HD.out.map.lt
  have hcx := hbx.cell
  clear hw1
  refine wpIn_rangeFunc_ownF rfl (by omega) (gf := 126) (lb := #[.pointer (some ⟨w.heap.size + 1, 0, none⟩)]) rfl trivial (enters_of Tryz.func126 (by kernel_rfl) rfl)
    (inOrder_stops (12 - 1) (by omega) gd m q (w.heap.size + 1) w1.heap.size w.heap.size fs hd1.srt (by omega) (fun f hf => Nat.le_trans (hnl f hf) (by decide)) w1 (Nat.le_refl _) (by omega) (fun a n c e => by rw [hcx] at e; cases e) hd1.dn hcb)
    Kq.trans (Kq.put (by omega) (by omega) (by omega) (by omega)) (Below.refl _ _) (fun _ => rfl)
    (UsI w.heap.size w1 fs) (NoX fs) (usI_own _ w1 fs (by omega) (by omega)) (fun c => noX_own fs _ c) ⟨hbx, Below.refl _ _⟩
    (fun x => { tmps := #[.pointer (some ⟨gd, 0, none⟩), undef, .int .i64 0, .pointer (some ⟨w.heap.size, 0, none⟩), undef, .pointer (some ⟨x.1.g, 0, none⟩), .pointer (some ⟨gd, 0, none⟩), .func (.func 126) #[] #[.pointer (some ⟨w.heap.size + 1, 0, none⟩)], .string (str x.1.nm), .pointer (some ⟨x.1.g, 0, none⟩), undef, undef, undef, undef, undef, undef, undef, undef], defers := [] }) ?assign ?body ?done ?stop
  case assign =>
    intro l x W K hK
    gi_wp2
    exact hK
  case body =>
    rintro l pre x W ⟨hb, hB⟩ hlt
    have hc := hb.cell
    have hf := hb.frozen
    have hff := ((HD.out.new (hB1.trans hB)).fil x.1 x.2).blk
    have cf : W.cell? ⟨x.1.g, 0, none⟩ = some (.slice x.1.ao x.1.bs.length x.1.cap) := by rw [hff.cell]; rfl
    have h1 := HBL.out x.1 x.2
    have h2 := HTL.out pre
    have h3 : pre.length < fs.length := hlt
    have hsum : IntKind.i64.wrap ((tot pre : Int) + (x.1.bs.length : Int)) = ((tot pre + x.1.bs.length : Nat) : Int) := by
      rw [← Int.natCast_add]; exact IntWalk.i64_in _ (by omega)
    have HT := Lib.hid (tot_snoc pre x)
    have HB' := Lib.hid hb
    have HBB := Lib.hid hB
    have hmx : Tryz.prog.follows .mixedOrders = true := by kernel_rfl
    clear hff h1 h2 h3 hlt
    generalize tot pre + x.1.bs.length = tt at *
    generalize tot pre = tp at *
    gi_wp2
    gi_region_o
    all_goals gi_wp2
    all_goals (
      have hsz := HBB.out.size
      have hl := HB'.out.cell
      have hwl := World.block_lt_of_cell? W _ hl
      refine ⟨(KeepsOthers.setCell _ _ _).trans (KeepsOthers.drew _), kq_box HB'.out (by omega) (by omega) (by omega) (by omega) (by omega) (by omega) (by omega) _ _, by rw [HT.out]; exact HB'.out.set _, (HBB.out.setCell (p := ⟨w.heap.size, 0, none⟩) (Nat.le_refl _) _).drew⟩)
  case done =>
    rintro D xs W hD hxs ⟨hb, hB⟩ hK
    have hc := hb.cell
    have hu := Lib.hid (tot_all xs hxs)
    obtain ⟨u, hxu⟩ : ∃ u, u = tot xs := ⟨_, rfl⟩
    rw [← hxu] at hc
    have HU : Hid (u = used (fs.map Fil.ent)) := by show _ = _; rw [hxu, hu.out]
    clear hxu
    gi_wp2
    refine ⟨by simp, .inl ⟨_, _, rfl, run_takeDeferred hK, ?_⟩⟩
    exact ⟨_, results_tmp rfl _ _ _, by rw [← HU.out]; rfl, (hB1.trans hB).trans (belowK_b (w := w1) (by omega) _ D _ _ hD hK rfl rfl)⟩
  case stop =>
    rintro D c pre W hD hpre h hK
    exact h.elim
def Lst (w : World) (B : Nat) (v : Value) (l : List (List UInt8)) : Prop := w.ownsRow B 9 1 v l.length (l.map fun n => .string (str n))
theorem info_st : (Tryz.prog.info? 9).map (fun i => (i.zero, i.size, i.bytes)) = some (some (.string ⟨#[]⟩), 1, 16) := by kernel_rfl
def LsI (b : Nat) (w : World) (fs : List Fil) (pre : List (Itm fs)) (W : World) : Prop :=
  (∃ v, Boxed W b 78 v ∧ Lst W w.heap.size v (pre.map fun x => x.1.nm)) ∧ Below b w W
theorem lst_keep {W W' : World} {B : Nat} {v : Value} {l : List (List UInt8)} {row : Option Nat} (h : Lst W B v l) (hg : W.grownBy W' row)
    (hr : ∀ r, row = some r → ∃ o : Obj, W.heap[r]? = some o ∧ o.isCells = false) : Lst W' B v l := by
  refine World.ownsRow.kept h hg ?_
  rcases h.2 with ⟨rfl, _⟩ | ⟨g, cap, cur, rfl, _, hgb, _⟩
  · exact .inl rfl
  · refine .inr fun e' => ?_
    obtain ⟨o, ho, hc⟩ := hr g (by simpa [Value.ownBlock] using e'.symm)
    rw [hgb] at ho; cases ho; cases hc
theorem lsI_own (b : Nat) (w : World) (fs : List Fil) {B : Nat} (hb : b ≤ w.heap.size) (hB : b ≤ B) : OwnFrom B (LsI b w fs) :=
  OwnFrom.and (Own.from (I := fun (s : List (Itm fs)) W => ∃ v, Boxed W b 78 v ∧ Lst W w.heap.size v (s.map fun x => x.1.nm)) (fun s A C row hs hg hr => by obtain ⟨v, h1, h2⟩ := hs; exact ⟨v, boxed_keep h1 hg hr, lst_keep h2 hg hr⟩) _) (ownFrom_below hb hB)

set_option maxHeartbeats 2000000 in
theorem list_c {gd m q : Nat} {fs : List Fil} (w : World) (h : Dk w gd m q fs) :
    Calls Tryz.prog 33 #[.pointer (some ⟨gd, 0, none⟩)] w fun E w' => ∃ v, E = .returned v ∧ Lst w' w.heap.size v (fs.map Fil.nm) ∧ Below w.heap.size w w' := by
  obtain ⟨hlen, hnl, _⟩ := h.names
  obtain ⟨i0, hi0, hz0, hz1, hz2⟩ := info_parts info_st
  have HI0 := Lib.hid hi0
  have HZ0 := Lib.hid hz0
  have HZ1 := Lib.hid hz1
  have HZ2 := Lib.hid hz2
  clear hi0 hz0 hz1 hz2
  have HD := Lib.hid h
  clear h
  refine (callsIn_wide (n := 12)).1 ?_
  refine callsIn_of_wp_marks Tryz.func33 rfl trivial ?_ rfl
  simp only [Tryz.ntmps33, List.size_toArray, List.length_cons, List.length_nil, Nat.reduceAdd, Nat.reduceSub, Array.replicate_succ, Array.replicate_zero, List.push_toArray, List.append_toArray, List.nil_append, List.cons_append]
  gi_wp2
  refine ⟨trivial, (callsIn_wide.2 (inOrder_c _ _)).mono ?_⟩
  rintro E w1 ⟨rfl, hw1⟩
  gi_wp2
  have hsz1 : w1.heap.size = w.heap.size + 2 := by rw [← hw1]; simp
  have hB1 : Below w.heap.size w w1 := by
    rw [← hw1]; exact ((below_alloc w _).trans ((below_alloc _ _).mono (by simp)))
  have hbx : Boxed w1 w.heap.size 78 (.slice none 0 0) := by
    rw [← hw1]
    exact (Boxed.new w 78 (.slice none 0 0)).alloc _
  have hcb : Cells w1 (w.heap.size + 1) 28 #[.pointer (some ⟨gd, 0, none⟩)] := by
    rw [← hw1]
    have := Cells.made (w.alloc (.cells #[.slice none 0 0] 78)) 28 #[.pointer (some ⟨gd, 0, none⟩)]
    simpa using this
  have hd1 : Dk w1 gd m q fs := HD.out.new hB1
  have hgl := HD.out.blk.lt
  have hml := HD.out.map.lt
  have hcx := hbx.cell
  clear hw1
  refine wpIn_rangeFunc_ownF rfl (by omega) (gf := 126) (lb := #[.pointer (some ⟨w.heap.size + 1, 0, none⟩)]) rfl trivial (enters_of Tryz.func126 (by kernel_rfl) rfl)
    (inOrder_stops (12 - 1) (by omega) gd m q (w.heap.size + 1) w1.heap.size w.heap.size fs hd1.srt (by omega) (fun f hf => Nat.le_trans (hnl f hf) (by decide)) w1 (Nat.le_refl _) (by omega) (fun a n c e => by rw [hcx] at e; cases e) hd1.dn hcb)
    Kq.trans (Kq.put (by omega) (by omega) (by omega) (by omega)) (Below.refl _ _) (fun _ => rfl)
    (LsI w.heap.size w1 fs) (NoX fs) (lsI_own _ w1 fs (by omega) (by omega)) (fun c => noX_own fs _ c) ⟨⟨_, hbx, World.ownsRow_nil _ _ _ _⟩, Below.refl _ _⟩
    (fun x => { tmps := #[.pointer (some ⟨gd, 0, none⟩), undef, .slice none 0 0, .pointer (some ⟨w.heap.size, 0, none⟩), .string (str x.1.nm), .pointer (some ⟨gd, 0, none⟩), .func (.func 126) #[] #[.pointer (some ⟨w.heap.size + 1, 0, none⟩)], .string (str x.1.nm), .pointer (some ⟨x.1.g, 0, none⟩), undef, undef, undef, undef, undef], defers := [] }) ?assign ?body ?done ?stop
  case assign =>
    intro l x W K hK
    gi_wp2
    exact hK
  case body =>
    rintro l pre x W ⟨⟨v, hb, hrow⟩, hB⟩ hlt
    obtain ⟨ao, cap, rfl, _⟩ := row_form hrow
    have hlt' : pre.length < fs.length := hlt
    have hc := hb.cell
    have hf := hb.frozen
    have HB := Lib.hid hb
    have HBB := Lib.hid hB
    have HROW := Lib.hid hrow
    have hpl : (pre.map fun x => x.1.nm).length = pre.length := by simp
    have hb1 : (pre.map fun x => x.1.nm).length + 1 ≤ maxLen := by rw [hpl]; unfold maxLen; omega
    have hb2 : ((pre.map fun x => x.1.nm).length + 1) * 16 ≤ 140737488355328 := by rw [hpl]; omega
    have HPS : Hid ((pre ++ [x]).map (fun x => x.1.nm) = (pre.map fun x => x.1.nm) ++ [x.1.nm]) := by show _ = _; simp
    have hsz := hB.size
    clear hpl hlt hlt'
    generalize (pre.map fun x => x.1.nm) = nl at *
    gi_wp2_with (gi_at_builtin; refine wpListIn_append_own_at _ rfl _ _ 78 rfl w1.heap.size 9 i0 (.string ⟨#[]⟩) 1 16 Tryz.underlying78 HI0.out HZ0.out HZ1.out HZ2.out rfl (by decide) _ _ _ rfl (World.ownsRow.alloc HROW.out _) ⟨W.heap.size, 0, none⟩ 1 1 [.string (str x.1.nm)] rfl rfl (cell_one_new _ _ _) (by simp [Value.oneCell']) hb1 hb2 (by simp; omega) ?_; intro v' w2 hown' hgrow _ hat; obtain ⟨g', cap', rfl⟩ := ownsRow_succ hown'; obtain ⟨hv1, hv2, hr2, hk2, hb2'⟩ := HB.out.appended (by decide) (ownsRow_base_a HROW.out (show w.heap.size ≤ _ by omega)) (by omega) (Nat.le_refl _) (ownsRow_base_a hown' (show w.heap.size ≤ _ by omega)) hgrow; have hc1' := hv1.cell; have hf1' := hv1.frozen)
    have hr3 := hown'.kept (grownBy_setCell' w2 w.heap.size (.slice (some ⟨g', 0, none⟩) (nl.length + 1) cap')) (.inr (hv1.not_row (by decide) hown').symm)
    have hTu : Tu (fun y => some y = (Value.slice ao nl.length cap).ownBlock ∨ y = w.heap.size) W (w2.setCell ⟨w.heap.size, 0, none⟩ (.slice (some ⟨g', 0, none⟩) (nl.length + 1) cap')) :=
      ((Tu.fresh (S := fun y => some y = (Value.slice ao nl.length cap).ownBlock ∨ y = w.heap.size) (World.grownBy_alloc W _ none)).trans (Tu.grown hgrow) (fun _ _ h => .inl h)).trans (Tu.grown (grown_set w2 w.heap.size 0 _)) (fun _ _ h => .inr (Option.some.inj h))
    have hge : ∀ y, (Value.slice ao nl.length cap).ownBlock = some y → w1.heap.size ≤ y := fun y hy => (HROW.out.lt y hy).1
    refine ⟨hk2, Kq.of_tu hTu (by omega) (by omega) (by omega) ?_ ?_ ?_ (fun y t cs hy => ⟨?_, ?_⟩), ⟨_, hv2, ?_⟩, HBB.out.trans hb2'⟩
    · rintro (e | e)
      · have := hge gd e.symm; omega
      · omega
    · rintro (e | e)
      · have := hge m e.symm; omega
      · omega
    · rintro (e | e)
      · have := hge _ e.symm; omega
      · omega
    · rintro (e | e)
      · cases hao : ao with
        | none => rw [hao] at e; cases e
        | some a => rw [hao] at e hc; exact hy.2.2 a _ _ hc (by simpa [Value.ownBlock] using e.symm)
      · have := hy.1; omega
    · intro a n c e
      rw [hv2.cell] at e
      injection e with e
      injection e with e1 e2 e3
      injection e1 with e1
      subst e1
      rcases hat with hat | hat
      · have hat1 : some g' = (Value.slice ao nl.length cap).ownBlock := hat
        cases hao : ao with
        | none => rw [hao] at hat1; cases hat1
        | some a =>
          rw [hao] at hat1 hc
          have h1 := hy.2.2 a _ _ hc
          have h2 : g' = a.block := Option.some.inj hat1
          intro e
          exact h1 (by rw [← h2]; exact e)
      · have h1 := hy.2.1.lt
        have h2 : some g' = some (W.alloc (.cells #[.string (str x.1.nm)] 9)).heap.size := hat
        have h3 := Option.some.inj h2
        rw [World.size_alloc] at h3
        show g' ≠ y
        omega
    · rw [HPS.out]
      unfold Lst
      rw [List.map_append, List.length_append]
      exact hr3
  case done =>
    rintro D xs W hD hxs ⟨⟨v, hb, hrow⟩, hB⟩ hK
    have hc := hb.cell
    have hn : (xs.map fun x => x.1.nm) = fs.map Fil.nm := by
      have e : (xs.map fun x => x.1.nm) = (xs.map Subtype.val).map Fil.nm := by rw [List.map_map]; rfl
      rw [e, hxs]
    rw [hn] at hrow
    have HRO := Lib.hid hrow
    clear hn hrow hxs
    gi_wp2
    refine ⟨by simp, .inl ⟨_, _, rfl, run_takeDeferred hK, ?_⟩⟩
    exact ⟨_, results_tmp rfl _ _ _, _, by rfl, lst_keep (ownsRow_base_a HRO.out (by omega)) (grownBy_putObj' _ D _) (fun r e => by cases e; exact ⟨_, hK, rfl⟩), (hB1.trans hB).trans (belowK_b (w := w1) (by omega) _ D _ _ hD hK rfl rfl)⟩
  case stop =>
    rintro D c pre W hD hpre h hK
    exact h.elim
end Go.Proofs.YtgeaacabpnepmaaGreatDoor
