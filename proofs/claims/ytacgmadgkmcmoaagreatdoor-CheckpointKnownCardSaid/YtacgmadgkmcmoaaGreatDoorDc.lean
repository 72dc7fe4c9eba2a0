/- Names, and files by their names: the program's mayStand, isName, check, find. -/
import Derived.Test.YtacgmadgkmcmoaaGreatDoorDb
import Derived.BigQuiet
namespace Go.Proofs.YtacgmadgkmcmoaaGreatDoor
open Go.RowKit
set_option linter.unusedVariables false
set_option maxRecDepth 100000

theorem mayStand_c (b : UInt8) (w : World) : Calls Tryz.prog 174 #[.int .u8 b.toNat] w fun E w' => E = .returned (.bool (nmc b)) ∧ w = w' := by
  have hb := UInt8.toNat_lt b
  have hq : Hid (nmc b = ((97 ≤ b.toNat && b.toNat ≤ 122) || (48 ≤ b.toNat && b.toNat ≤ 57) || b.toNat == 46 || b.toNat == 45)) := rfl
  generalize nmc b = r at *
  generalize b.toNat = n at *
  go_enter Tryz.func174, Tryz.ntmps174
  have key : (r = true ∧ ((97 ≤ n ∧ n ≤ 122) ∨ (n < 97 ∧ 48 ≤ n ∧ n ≤ 57) ∨ n = 46 ∨ n = 45)) ∨ (r = false ∧ ((122 < n) ∨ (n < 97 ∧ 57 < n) ∨ (n < 48 ∧ n ≠ 46 ∧ n ≠ 45))) := by
    rw [hq.out]
    simp only [Bool.or_eq_true, Bool.and_eq_true, decide_eq_true_eq, beq_iff_eq, Bool.or_eq_false_iff, Bool.and_eq_false_iff, decide_eq_false_iff_not, beq_eq_false_iff_ne]
    omega
  clear hq
  rcases key with ⟨rfl, ⟨h1, h2⟩ | ⟨h1, h2, h3⟩ | rfl | rfl⟩ | ⟨rfl, h1 | ⟨h1, h2⟩ | ⟨h1, h2, h3⟩⟩
  · go_wp2; go_ret; exact ⟨rfl, rfl⟩
  · go_wp2; go_ret; exact ⟨rfl, rfl⟩
  · go_wp2; go_ret; exact ⟨rfl, rfl⟩
  · go_wp2; go_ret; exact ⟨rfl, rfl⟩
  · go_wp2; go_ret; exact ⟨by first | rfl | (simp; omega), rfl⟩
  · go_wp2; go_ret; exact ⟨by first | rfl | (simp; omega), rfl⟩
  · go_wp2; go_ret; exact ⟨by first | rfl | (simp; omega), rfl⟩
theorem nms_step {n : List UInt8} {k : Nat} (h : k < n.length) : (n.take (k + 1)).all nmc = ((n.take k).all nmc && nmc (n[k]'h)) := by
  rw [List.take_succ_eq_append_getElem h, List.all_append]
  simp
theorem nms_no {n : List UInt8} {k : Nat} (h : k < n.length) (hn : nmc (n[k]'h) = false) : n.all nmc = false := by
  rw [List.all_eq_false]
  exact ⟨_, List.getElem_mem h, by simp [hn]⟩
theorem isName_c (n : List UInt8) (w : World) (hl : n.length ≤ maxLen) : Calls Tryz.prog 133 #[.string (str n)] w fun E w' => E = .returned (.bool (isNm n)) ∧ w = w' := by
  simp only [maxLen] at hl
  have hs := str_size n
  by_cases h1 : n.length < 1
  · have hq : isNm n = false := by unfold isNm; simp; omega
    rw [hq]
    go_enter Tryz.func133, Tryz.ntmps133
    go_wp2
    go_ret
    exact ⟨rfl, rfl⟩
  by_cases h2 : 32 < n.length
  · have hq : isNm n = false := by unfold isNm; simp; omega
    rw [hq]
    go_enter Tryz.func133, Tryz.ntmps133
    go_wp2
    go_ret
    exact ⟨rfl, rfl⟩
  have hq : Hid (isNm n = n.all nmc) := by show _ = _; unfold isNm; simp; omega
  rw [hq.out]
  go_enter Tryz.func133, Tryz.ntmps133
  go_wp2
  go_loop [14] (fun i => ∃ k : Nat, k ≤ n.length ∧ i = .int .i64 k ∧ (n.take k).all nmc = true) (fun i => n.length - (intOf i).toNat)
  case atStart => exact ⟨0, Nat.zero_le _, rfl, by simp⟩
  case round =>
    obtain ⟨k, hk, rfl, hok⟩ := hrel
    have HOK := Lib.hid hok
    clear hok
    by_cases hlt : k < n.length
    · have hg : ∀ h, (str n)[k]'h = n[k]'hlt := fun h => rfl
      have hc := mayStand_c (n[k]'hlt) w
      have HN := Lib.hid (nms_step hlt)
      have HX := Lib.hid (nms_no hlt)
      cases hb : nmc (n[k]'hlt) with
      | true =>
        rw [hb] at hc
        have HB := Lib.hid hb
        clear hb
        go_wp2_with fail
        refine hc.mono ?_
        rintro E w1 ⟨rfl, rfl⟩
        go_wp2
        go_round
        case rel => exact ⟨k + 1, by omega, by go_num, by rw [HN.out, HOK.out, HB.out]; rfl⟩
        case measure => simp [intOf]; omega
      | false =>
        rw [hb] at hc
        have HB := Lib.hid hb
        clear hb
        go_wp2_with fail
        refine hc.mono ?_
        rintro E w1 ⟨rfl, rfl⟩
        go_wp2
        go_ret
        exact ⟨by rw [HX.out HB.out]; rfl, rfl⟩
    · have hx : k = n.length := by omega
      have HX := Lib.hid hx
      clear hx
      go_wp2
      go_ret
      refine ⟨?_, rfl⟩
      have := HOK.out
      rw [HX.out, List.take_length] at this
      rw [this]
      rfl
/-- The names of a call, as they can be read. -/
def Nms (w : World) (b : Nat) (l : List (List UInt8)) : Prop := ∀ j (h : j < l.length), w.cell? ⟨b, j, none⟩ = some (.string (str (l[j]'h))) ∧ (l[j]'h).length ≤ maxLen
def dchk (l : List (List UInt8)) : Nat := if l.all isNm then 0 else 2
theorem eql_map_some (m : Nat) (w : World) : (binOp .eql 141 (.map (some m)) (.map none)).run Tryz.prog w = .ok (.bool false) w := by kernel_rfl
theorem eql_map_none (w : World) : (binOp .eql 141 (.map none) (.map none)).run Tryz.prog w = .ok (.bool true) w := by kernel_rfl
attribute [local go_sem] eql_map_some eql_map_none
theorem check_nil (v s : Value) (w : World) (h : NilD w v) :
    Calls Tryz.prog 83 #[v, s] w fun E w' => E = .returned (.int .i64 1) ∧ w = w' := by
  rcases h with rfl | ⟨g, q, rfl, hc⟩
  · go_enter Tryz.func83, Tryz.ntmps83
    go_wp2
    go_ret
    exact ⟨rfl, rfl⟩
  · have c1 : w.cell? ⟨g, 1, none⟩ = some (.map none) := by rw [hc.cell]; rfl
    go_enter Tryz.func83, Tryz.ntmps83
    go_wp2
    go_ret
    exact ⟨rfl, rfl⟩
theorem dcheck_c {gd m q b : Nat} {fs : List Fil} (c : Nat) (l : List (List UInt8)) (w : World) (h : Dk w gd m q fs) (hl : Nms w b l) (hn : l.length ≤ 1000) :
    Calls Tryz.prog 83 #[.pointer (some ⟨gd, 0, none⟩), .slice (some ⟨b, 0, none⟩) l.length c] w fun E w' => E = .returned (.int .i64 (dchk l)) ∧ w = w' := by
  have c1 : w.cell? ⟨gd, 1, none⟩ = some (.map (some m)) := by rw [h.blk.cell]; rfl
  have HL := Lib.hid hl
  clear h hl
  go_enter Tryz.func83, Tryz.ntmps83
  go_wp2
  go_loop [18] (fun i => ∃ k : Nat, k ≤ l.length ∧ i = .int .i64 k ∧ (l.take k).all isNm = true) (fun i => l.length - (intOf i).toNat)
  case atStart => exact ⟨0, Nat.zero_le _, rfl, by simp⟩
  case round =>
    obtain ⟨k, hk, rfl, hok⟩ := hrel
    have HOK := Lib.hid hok
    clear hok
    by_cases hlt : k < l.length
    · obtain ⟨hcell, hlen⟩ := HL.out k hlt
      have hc := isName_c (l[k]'hlt) w hlen
      cases hb : isNm (l[k]'hlt) with
      | true =>
        rw [hb] at hc
        have HN : Hid ((l.take (k + 1)).all isNm = true) := by show _ = _; rw [List.take_succ_eq_append_getElem hlt, List.all_append, HOK.out]; simp [hb]
        clear hb hlen
        generalize l[k]'hlt = x at *
        go_wp2_with fail
        refine hc.mono ?_
        rintro E w1 ⟨rfl, rfl⟩
        go_wp2
        go_round
        case rel => exact ⟨k + 1, by omega, by go_num, HN.out⟩
        case measure => simp [intOf]; omega
      | false =>
        rw [hb] at hc
        have HN : Hid (dchk l = 2) := by show _ = _; unfold dchk; rw [if_neg]; intro e; rw [List.all_eq_true] at e; have := e _ (List.getElem_mem hlt); rw [hb] at this; cases this
        clear hb hlen
        generalize l[k]'hlt = x at *
        go_wp2_with fail
        refine hc.mono ?_
        rintro E w1 ⟨rfl, rfl⟩
        go_wp2
        go_ret
        exact ⟨by rw [HN.out]; rfl, rfl⟩
    · have hx : k = l.length := by omega
      have HX : Hid (dchk l = 0) := by show _ = _; have := HOK.out; rw [hx, List.take_length] at this; unfold dchk; rw [if_pos this]
      clear hx
      go_wp2
      go_ret
      exact ⟨by rw [HX.out]; rfl, rfl⟩
/-- One file looked up: the map's own answer. -/
theorem look_c {gd m q : Nat} {fs : List Fil} {w : World} (h : Dj w gd m q fs) (n : List UInt8) (hn : n.length ≤ maxLen) :
    (Instr.lookup 141 (.map (some m)) (.string (str n)) false).run Tryz.prog w = .ok (.pointer ((fndK Fil.nm n fs).map fun f => ⟨f.g, 0, none⟩)) w := by
  have hz : (zeroValue 125).run Tryz.prog w = .ok (.pointer none) w := by simp [Tryz.zeroValue125]
  obtain ⟨v, ps, hr, hv⟩ := h.map.lookup key_str Tryz.underlying141 hz (zd := .nil) (zp := []) rfl (key_of n hn)
  rw [dat_at] at hv
  rw [hr]
  cases hf : fndK Fil.nm n fs with
  | none => rw [hf] at hv; rw [DRf_nil hv]; rfl
  | some f => rw [hf] at hv; rw [DRf_ptr hv]; rfl
theorem isNm_len {n : List UInt8} (h : isNm n = true) : n.length ≤ 32 := by
  unfold isNm at h
  simp at h
  exact h.1.2
theorem nms_one (w : World) (n : List UInt8) (hn : n.length ≤ maxLen) : Nms (w.alloc (.cells #[.string (str n)] 9)) w.heap.size [n] := fun j hj => by
  have : j = 0 := by simp at hj; exact hj
  subst this
  exact ⟨by rw [(Cells.made w _ _).cell]; rfl, hn⟩
theorem nms_two (w : World) (n n' : List UInt8) (hn : n.length ≤ maxLen) (hn' : n'.length ≤ maxLen) : Nms (w.alloc (.cells #[.string (str n), .string (str n')] 9)) w.heap.size [n, n'] := fun j hj => by
  have : j = 0 ∨ j = 1 := by simp at hj; omega
  rcases this with rfl | rfl
  · exact ⟨by rw [(Cells.made w _ _).cell]; rfl, hn⟩
  · exact ⟨by rw [(Cells.made w _ _).cell]; rfl, hn'⟩
theorem below_alloc (w : World) (o : Obj) : Below w.heap.size w (w.alloc o) := (Below.refl _ w).alloc (Nat.le_refl _) o
end Go.Proofs.YtacgmadgkmcmoaaGreatDoor
