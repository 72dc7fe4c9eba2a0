/- The document's contents of a segment in a block of their own, their row behind it; the own input of a frame. -/
import Derived.Test.YthnelnfefllhpaaDoorBg
namespace Go.Proofs.YthnelnfefllhpaaDoor
open Go.RowKit
set_option linter.unusedVariables false
set_option linter.unusedSimpArgs false
set_option maxRecDepth 20000

def dcs (x : Sg) (ao : Option Addr) (cap : Nat) : Array Value := ((rcs x.h).toList ++ ([.bool x.b, .slice ao x.l.length cap, .int .u64 (x.c : Int), .int .u64 (x.o : Int)] : List Value)).toArray
structure DtC (w : World) (g n : Nat) (x : Sg) (ao : Option Addr) (cap : Nat) : Prop where
  blk : Cells w g 61 (dcs x ao cap)
  row : w.ownsRow (g + 1) 33 9 (.slice ao x.l.length cap) x.l.length (Rall x.l)
  okg : Okg n x
  few : x.l.length ≤ 1000000
section
variable (x : Sg) (ao : Option Addr) (cap : Nat)
theorem dcs_size : (dcs x ao cap).size = 13 := by simp [dcs, rcs]
theorem dcs8 : (dcs x ao cap)[8]? = some (.int .u8 (x.h.y : Int)) := by simp [dcs, rcs]
theorem dcs9 : (dcs x ao cap)[9]? = some (.bool x.b) := by simp [dcs, rcs]
theorem dcs10 : (dcs x ao cap)[10]? = some (.slice ao x.l.length cap) := by simp [dcs, rcs]
theorem dcs11 : (dcs x ao cap)[11]? = some (.int .u64 (x.c : Int)) := by simp [dcs, rcs]
theorem dcs12 : (dcs x ao cap)[12]? = some (.int .u64 (x.o : Int)) := by simp [dcs, rcs]
theorem dcs_head : (((dcs x ao cap).toList.drop 0).take 9).toArray = rcs x.h := by simp [dcs, rcs]
theorem dcs_setHead (h : Rc) : ((dcs x ao cap).toList.take 0 ++ (rcs h).toList ++ (dcs x ao cap).toList.drop (0 + 9)).toArray = dcs ⟨x.b, h, x.l, x.c, x.o⟩ ao cap := by simp [dcs, rcs]
theorem dcs_setB (b : Bool) : ((dcs x ao cap).toList.take 9 ++ [Value.bool b] ++ (dcs x ao cap).toList.drop (9 + 1)).toArray = dcs ⟨b, x.h, x.l, x.c, x.o⟩ ao cap := by simp [dcs, rcs]
theorem dcs_setL (l : List Rc) (a : Option Addr) (c m : Nat) (hm : m = l.length) : ((dcs x ao cap).toList.take 10 ++ [Value.slice a m c] ++ (dcs x ao cap).toList.drop (10 + 1)).toArray = dcs ⟨x.b, x.h, l, x.c, x.o⟩ a c := by subst hm; simp [dcs, rcs]
theorem dcs_setC (k : Nat) : ((dcs x ao cap).toList.take 11 ++ [Value.int .u64 (k : Int)] ++ (dcs x ao cap).toList.drop (11 + 1)).toArray = dcs ⟨x.b, x.h, x.l, k, x.o⟩ ao cap := by simp [dcs, rcs]
theorem dcs_setO (k : Nat) : ((dcs x ao cap).toList.take 12 ++ [Value.int .u64 (k : Int)] ++ (dcs x ao cap).toList.drop (12 + 1)).toArray = dcs ⟨x.b, x.h, x.l, x.c, k⟩ ao cap := by simp [dcs, rcs]
end
theorem DtC.to {w w' : World} {g n : Nat} {x : Sg} {ao : Option Addr} {cap : Nat} (h : DtC w g n x ao cap) (hb : Below w.heap.size w w') : DtC w' g n x ao cap :=
  ⟨h.blk.below hb h.blk.lt, h.row.kept (grown_of_below (r := none) hb) (by cases hv : (Value.slice ao x.l.length cap).ownBlock <;> simp), h.okg, h.few⟩
theorem DtC.same {w w' : World} {g n k : Nat} {x : Sg} {ao : Option Addr} {cap : Nat} (h : DtC w g n x ao cap) (hb : w.grownBy w' (some k)) (hk : k < g) : DtC w' g n x ao cap :=
  ⟨h.blk.grown hb (by intro e; cases e; omega), h.row.kept hb (by
    cases hv : (Value.slice ao x.l.length cap).ownBlock with
    | none => exact .inl rfl
    | some y => have := (h.row.lt y hv).1; exact .inr (by intro e; cases e; omega)), h.okg, h.few⟩
theorem DtC.rcr {w : World} {g n : Nat} {x : Sg} {ao : Option Addr} {cap : Nat} (h : DtC w g n x ao cap) : Rcr 33 (g + 1) w [g] ao x.l.length cap x.l :=
  ⟨h.row, rfl, fun b hb e => by rw [List.mem_singleton] at hb; subst hb; have := (h.row.lt b e).1; omega, fun b hb => by rw [List.mem_singleton] at hb; subst hb; exact h.blk.lt⟩
theorem ty_said : TyA 61 13 := tya_struct Tryd.underlying61 (by kernel_rfl)
theorem ty_drecs : TyO 34 := tyo_of Tryd.underlying34 rfl (by kernel_rfl)
theorem ld_drecs (v : Value) : Instr.loadAt 34 v = ldT 34 v := rfl
theorem st_drecs (p v : Value) : Instr.storeAt 34 p v = stT 34 p v := rfl
theorem st_said (p v : Value) : Instr.storeAt 61 p v = stT 61 p v := rfl
theorem info_drec : (Tryd.prog.info? 33).map (fun i => (i.zero, i.size, i.bytes)) = some (some (.agg (rcs rz)), 9, 56) := by kernel_rfl
theorem bs_dm (ps : Array (Nat × Value)) : Instr.buildSlice 34 1 ps = bsM 34 ps := rfl
theorem bs_drec (r : Rc) (w : World) : (bsM 34 #[(0, .agg (rcs r))]).run Tryd.prog w = .ok (.slice (some ⟨w.heap.size, 0, none⟩) 1 1) (w.alloc (.cells (rcs r) 33)) := bs_of Tryd.underlying34 info_drec r w
theorem inp_take {l : List Rc} {k : Nat} (hk : k < l.length) (f : Nat) : inp (l.take (k + 1)) f = if (l[k]'hk).k = 1 ∧ (l[k]'hk).f = f then (l[k]'hk).o else inp (l.take k) f := by
  rw [List.take_succ_eq_append_getElem hk, inp_snoc]
attribute [local go_sem ↓] ld_drecs ld_int ld_u64 ld_input
set_option maxHeartbeats 1000000 in
theorem dinput_c {g n : Nat} {x : Sg} {ao : Option Addr} {cap : Nat} (f : Nat) (w : World) (h : DtC w g n x ao cap) :
    Calls Tryd.prog 31 #[.pointer (some ⟨g, 0, none⟩), .int .u64 (f : Int)] w fun E w' => E = .returned (.int .u8 (inp x.l f : Int)) ∧ w = w' := by
  obtain ⟨hat, _, hcap, _, _⟩ := h.rcr.told
  have HAT := Lib.hid hat
  have hlm := h.few
  have l10 := run_ldO ty_drecs h.blk 10 (dcs10 x ao cap)
  clear h hat
  generalize x.l = l at *
  go_enter Tryd.func31, Tryd.ntmps31
  go_wp2
  go_loop [5, 6] (fun i k => ∃ j : Nat, j ≤ l.length ∧ k = .int .i64 (j : Int) ∧ i = .int .u8 (inp (l.take j) f : Int)) (fun _ k => l.length - (intOf k).toNat)
  case atStart => exact ⟨0, Nat.zero_le _, rfl, rfl⟩
  case round =>
    obtain ⟨j, hj, rfl, rfl⟩ := hrel
    by_cases hlt : j < l.length
    · have hstep := Lib.hid (inp_take hlt f)
      obtain ⟨b, o, rfl, hload⟩ := HAT.out.one hlt
      have hcell := (hload w (Below.refl _ _)).2
      generalize l[j]'hlt = r at *
      have c0 := run_ldC ty_int (show w.cell? ⟨b, o + j * 9, none⟩ = some (.int .i64 r.k) from hcell 0 _ rfl)
      have c1 := run_ldC ty_u64 (show w.cell? ⟨b, o + j * 9 + 1, none⟩ = some (.int .u64 (r.f : Int)) from hcell 1 _ rfl)
      have c2 := run_ldC ty_input (show w.cell? ⟨b, o + j * 9 + 2, none⟩ = some (.int .u8 (r.o : Int)) from hcell 2 _ rfl)
      clear hload hcell
      generalize inp (l.take j) f = i0 at *
      have hjl := Lib.hid hlt
      have hlj : (j : Int) < (l.length : Int) := by omega
      by_cases h1 : r.k = 1
      · have g1 : (r.k == 1) = true := beq_iff_eq.2 h1
        by_cases h2 : r.f = f
        · have g2 : ((r.f : Int) == (f : Int)) = true := beq_iff_eq.2 (by omega)
          have hs2 : Hid (inp (l.take (j + 1)) f = r.o) := by show _ = _; rw [hstep.out, if_pos ⟨h1, h2⟩]
          clear h1 h2 hstep
          go_wp2
          go_round
          case rel => exact ⟨j + 1, hjl.out, by go_num, by rw [hs2.out]⟩
          case measure => have := hjl.out; simp [intOf]; omega
        · have g2 : ((r.f : Int) == (f : Int)) = false := beq_eq_false_iff_ne.2 (by omega)
          have hs2 : Hid (inp (l.take (j + 1)) f = i0) := by show _ = _; rw [hstep.out, if_neg (fun h => h2 h.2)]
          clear h1 h2 hstep
          go_wp2
          go_round
          case rel => exact ⟨j + 1, hjl.out, by go_num, by rw [hs2.out]⟩
          case measure => have := hjl.out; simp [intOf]; omega
      · have g1 : (r.k == 1) = false := beq_eq_false_iff_ne.2 h1
        have hs2 : Hid (inp (l.take (j + 1)) f = i0) := by show _ = _; rw [hstep.out, if_neg (fun h => h1 h.1)]
        clear h1 hstep
        go_wp2
        go_round
        case rel => exact ⟨j + 1, hjl.out, by go_num, by rw [hs2.out]⟩
        case measure => have := hjl.out; simp [intOf]; omega
    · obtain rfl : j = l.length := by omega
      rw [List.take_length]
      go_wp2
      go_ret
      exact ⟨rfl, rfl⟩
end Go.Proofs.YthnelnfefllhpaaDoor
