/- What package state writes: players, shots, a state: one contract each. -/
import Derived.Test.YtbmkmmkebophpaaDoorSe
namespace Go.Proofs.YtbmkmmkebophpaaDoor
open Go.RowKit
set_option linter.unusedVariables false

theorem u32_un32 {z : Int} (h : i32 z) : IntKind.u32.wrap z = (un32 z : Int) := by
  obtain ⟨h1, h2⟩ := h
  unfold un32
  simp [IntKind.wrap, IntKind.bits, IntKind.signed]
  omega
theorem u8_id {n : Nat} (h : n < 256) : IntKind.u8.wrap (n : Int) = (n : Int) := by
  simp [IntKind.wrap, IntKind.bits, IntKind.signed]; omega
def pes (l : List Pl) : List UInt8 := l.flatMap pe
theorem pes_len : ∀ (l : List Pl), (pes l).length = 19 * l.length
  | [] => rfl
  | a :: l => by
    have := pes_len l
    simp only [pes, List.flatMap_cons, List.length_append, pe_len, List.length_cons] at this ⊢
    omega
theorem flat_next {α : Type} (f : α → List UInt8) (l : List α) (k : Nat) (h : k < l.length) : (l.take (k + 1)).flatMap f = (l.take k).flatMap f ++ f (l[k]'h) := by
  rw [List.take_succ_eq_append_getElem h, List.flatMap_append]; simp only [List.flatMap_cons, List.flatMap_nil, List.append_nil]
theorem takeN_next (l : List Nat) (j : Nat) (h : j < l.length) : l.take (j + 1) = l.take j ++ [l.getD j 0] := by
  rw [List.take_succ_eq_append_getElem h]; simp [List.getD, List.getElem?_eq_getElem h]
theorem enM_next (l : List Nat) (j : Nat) (h : j < l.length) : enM eN 0 (l.take (j + 1)) = enM eN 0 (l.take j) ++ eN j (l.getD j 0) := by
  rw [takeN_next l j h, enM_snoc, List.length_take, Nat.min_eq_left (by omega), Nat.zero_add]
theorem enM_len : ∀ (l : List Nat) (i : Nat), (enM eN i l).length ≤ 4 * l.length
  | [], _ => by simp [enM]
  | a :: l, i => by
    have := enM_len l (i + 1)
    have h4 : wd i ≤ 4 := by unfold wd; split <;> omega
    simp only [enM, List.length_append, eN, le_length, List.length_cons]
    omega
theorem kept_cell {S : Nat → Prop} {w w' : World} {b o : Nat} {v : Value} (h : Kept S w w') (hb : S b) (hv : w.cell? ⟨b, o, none⟩ = some v) : w'.cell? ⟨b, o, none⟩ = some v :=
  (World.cell?_of_block (h.block b hb)).trans hv
theorem kept_cells {S : Nat → Prop} {w w' : World} {g : Nat} {t : TypeId} {cs : Array Value} (h : Kept S w w') (hb : S g) (hv : Cells w g t cs) : Cells w' g t cs := (h.block g hb).trans hv

theorem rawSh_at {p : Sh} (h : p.fit) {j : Nat} (hj : j < 6) :
    (j < 4 → IntKind.u32.wrap (p.nums.getD j 0) = (p.raw.getD j 0 : Int) ∧ p.raw.getD j 0 < 4294967296) ∧ (¬ j < 4 → IntKind.u8.wrap (p.nums.getD j 0) = (p.raw.getD j 0 : Int) ∧ p.raw.getD j 0 < 256) := by
  obtain ⟨h0, h1, h2, h3, h4, h5⟩ := h
  have : j = 0 ∨ j = 1 ∨ j = 2 ∨ j = 3 ∨ j = 4 ∨ j = 5 := by omega
  rcases this with rfl | rfl | rfl | rfl | rfl | rfl
  · exact ⟨fun _ => ⟨u32_un32 h0, un32_lt _⟩, fun h => absurd (by omega) h⟩
  · exact ⟨fun _ => ⟨u32_un32 h1, un32_lt _⟩, fun h => absurd (by omega) h⟩
  · exact ⟨fun _ => ⟨u32_un32 h2, un32_lt _⟩, fun h => absurd (by omega) h⟩
  · exact ⟨fun _ => ⟨u32_un32 h3, un32_lt _⟩, fun h => absurd (by omega) h⟩
  · exact ⟨fun h => absurd h (by omega), fun _ => ⟨u8_id h4, h4⟩⟩
  · exact ⟨fun h => absurd h (by omega), fun _ => ⟨u8_id h5, h5⟩⟩
set_option maxHeartbeats 1000000 in
set_option maxRecDepth 20000 in
theorem putSh (g : Nat) (S : Nat → Prop) (bs : List UInt8) (ao : Option Addr) (cap : Nat) (l : List Sh) (w : World) (h : Shs w ao l) (hS : 0 < l.length → ∀ a, ao = some a → S a.block) (hw : Ws w g S bs) (hl : l.length ≤ 1000) (hn : bs.length ≤ 1000000) :
    Calls Tryd.prog 34 #[.pointer (some ⟨g, 0, none⟩), .slice ao l.length cap, .func (.func 28) #[] #[]] w fun E w' => E = .returned (.tuple #[]) ∧ WsTo w g S (bs ++ hes l) w' := by
  have HBS := Lib.hid hn
  clear hn
  go_enter Tryd.func34, Tryd.ntmps34
  go_wp2
  go_loopw [12] (fun v wr => ∃ k : Nat, k ≤ l.length ∧ v = .int .i64 k ∧ WsTo w g S (bs ++ (l.take k).flatMap he) wr) (fun v _ => l.length - (intOf v).toNat)
  case atStart => exact ⟨0, by omega, rfl, by simpa using ws_to hw⟩
  case round =>
    obtain ⟨k, hk, rfl, hto⟩ := hrel
    by_cases hlt : k < l.length
    · obtain ⟨hfit, b, o, rfl, hc⟩ := h k hlt
      have hSb : S b := hS (by omega) _ rfl
      have hwk : ∀ {i : Nat} {v : Value}, w.cell? ⟨b, i, none⟩ = some v → wr.cell? ⟨b, i, none⟩ = some v := fun hv => kept_cell hto.2 hSb hv
      have c0 : wr.cell? ⟨b, o + k * 6, none⟩ = some (.int .i32 (l[k]'hlt).x) := hwk (hc 0 _ rfl)
      have c1 : wr.cell? ⟨b, o + k * 6 + 1, none⟩ = some (.int .i32 (l[k]'hlt).y) := hwk (hc 1 _ rfl)
      have c2 : wr.cell? ⟨b, o + k * 6 + 2, none⟩ = some (.int .i32 (l[k]'hlt).vx) := hwk (hc 2 _ rfl)
      have c3 : wr.cell? ⟨b, o + k * 6 + 3, none⟩ = some (.int .i32 (l[k]'hlt).vy) := hwk (hc 3 _ rfl)
      have c4 : wr.cell? ⟨b, o + k * 6 + 4, none⟩ = some (.int .u8 ((l[k]'hlt).o : Int)) := hwk (hc 4 _ rfl)
      have c5 : wr.cell? ⟨b, o + k * 6 + 5, none⟩ = some (.int .u8 ((l[k]'hlt).l : Int)) := hwk (hc 5 _ rfl)
      have HNX := Lib.hid (flat_next he l k hlt)
      have HF := Lib.hid hfit
      have HTO := Lib.hid hto
      have HLN : Hid ((bs ++ (l.take k).flatMap he).length ≤ 1100000) := by
        have h1 := hes_len (l.take k)
        have h2 := HBS.out
        simp only [hes, List.length_take] at h1
        show _ ≤ _
        rw [List.length_append, h1]
        omega
      clear hc hto h hfit hwk
      generalize hs : (l[k]'hlt) = s at *
      clear hs
      generalize hbb : bs ++ (l.take k).flatMap he = bb at *
      have HBB := Lib.hid hbb
      clear hbb
      go_wp2_with fail
      refine (ofShot_c s _ HF.out).mono ?_
      rintro E w1 ⟨g1, rfl, hgs, hgc, hgb⟩
      have hws : Ws w1 g (fun k => S k ∨ k = g1) bb := ws_more HTO.out.1 ((grown_alloc _ _).trans hgb) (fun i hi => by
        rcases hi with hi | rfl
        · exact .inl hi
        · exact .inr ⟨by simp at hgs; omega, hgc.lt⟩)
      have hkp : Kept S w w1 := HTO.out.2.trans (kept_grown ((grown_alloc _ _).trans hgb) HTO.out.1.2.1 (fun _ _ => by simp))
      have HW := Lib.hid hws
      have HK := Lib.hid hkp
      have HC := Lib.hid hgc
      clear hgs hgc hgb hws hkp HTO
      go_wp2
      go_loopw [20] (fun v wr => ∃ j : Nat, j ≤ 6 ∧ v = .int .i64 j ∧ Hid (Ws wr g (fun k => S k ∨ k = g1) (bb ++ enM eN 0 (s.raw.take j))) ∧ Hid (Kept S w wr) ∧ Hid (Cells wr g1 21 (i32v s.nums))) (fun v _ => 6 - (intOf v).toNat)
      case atStart => exact ⟨0, by omega, rfl, by simpa [enM] using HW, HK, HC⟩
      case round =>
        obtain ⟨j, hj, rfl, HW2, HK2, HC2⟩ := hrel
        by_cases hlt2 : j < 6
        · have hji : (j : Int) < 6 := by omega
          have n0 : wr.cell? ⟨g1, j, none⟩ = some (.int .i32 (s.nums.getD j 0)) := by rw [HC2.out.cell, i32v_at _ _ hlt2]
          have hra := rawSh_at HF.out hlt2
          have HE := Lib.hid (enM_next s.raw j hlt2)
          have HLB : Hid ((bb ++ enM eN 0 (s.raw.take j)).length ≤ 1099511627776) := by
            have h1 := enM_len (s.raw.take j) 0
            have h2 := HLN.out
            simp only [List.length_take] at h1
            show _ ≤ _
            rw [List.length_append]
            omega
          generalize s.nums.getD j 0 = z at *
          by_cases h4 : j < 4
          · obtain ⟨r1, r2⟩ := hra.1 h4
            have hw4 : eN j (s.raw.getD j 0) = le 4 (s.raw.getD j 0) := by unfold eN wd; rw [if_pos h4]
            rw [hw4] at HE
            generalize s.raw.getD j 0 = n at *
            have R1 := Lib.hid r1
            have R2 := Lib.hid r2
            clear r1 r2 hra hw4
            go_wp2_with fail
            refine (wsI32 g n _ z _ _ HW2.out HLB.out R2.out R1.out).mono ?_
            rintro E w2 ⟨rfl, hw3⟩
            have HW3 := Lib.hid hw3
            clear hw3
            go_wp2
            go_roundw
            case rel => exact ⟨j + 1, by omega, by go_num, by rw [HE.out, ← List.append_assoc]; exact HW3.out.1, HK2.out.trans (HW3.out.2.less (fun i hi => .inl hi)), kept_cells HW3.out.2 (.inr rfl) HC2.out⟩
            case measure => simp [intOf]; omega
          · obtain ⟨r1, r2⟩ := hra.2 h4
            have hw4 : eN j (s.raw.getD j 0) = le 1 (s.raw.getD j 0) := by unfold eN wd; rw [if_neg h4]
            rw [hw4] at HE
            generalize s.raw.getD j 0 = n at *
            have R2 := Lib.hid r2
            clear r2 hra hw4
            go_wp2_with fail
            refine (wsU8 g n _ _ _ HW2.out HLB.out R2.out).mono ?_
            rintro E w2 ⟨rfl, hw3⟩
            have HW3 := Lib.hid hw3
            clear hw3
            go_wp2
            go_roundw
            case rel => exact ⟨j + 1, by omega, by go_num, by rw [HE.out, ← List.append_assoc]; exact HW3.out.1, HK2.out.trans (HW3.out.2.less (fun i hi => .inl hi)), kept_cells HW3.out.2 (.inr rfl) HC2.out⟩
            case measure => simp [intOf]; omega
        · obtain rfl : j = 6 := by omega
          go_wp2
          go_roundw
          case rel =>
            refine ⟨k + 1, by omega, by go_num, ?_, HK2.out⟩
            rw [HNX.out, ← List.append_assoc, HBB.out]
            exact ws_less (T := S) HW2.out (fun i hi => .inl hi)
          case measure => simp [intOf]; omega
    · have HG : Hid (WsTo w g S (bs ++ hes l) wr) := by
        have e : k = l.length := by omega
        rw [e, List.take_length] at hto
        exact hto
      clear hto h
      go_wp2
      go_end0
      exact ⟨rfl, HG.out⟩

theorem rawPl_at {p : Pl} (h : p.fit) {j : Nat} (hj : j < 7) :
    (j < 4 → IntKind.u32.wrap (p.nums.getD j 0) = (p.raw.getD j 0 : Int) ∧ p.raw.getD j 0 < 4294967296) ∧ (¬ j < 4 → IntKind.u8.wrap (p.nums.getD j 0) = (p.raw.getD j 0 : Int) ∧ p.raw.getD j 0 < 256) := by
  obtain ⟨h0, h1, h2, h3, h4, h5, h6⟩ := h
  have : j = 0 ∨ j = 1 ∨ j = 2 ∨ j = 3 ∨ j = 4 ∨ j = 5 ∨ j = 6 := by omega
  rcases this with rfl | rfl | rfl | rfl | rfl | rfl | rfl
  · exact ⟨fun _ => ⟨u32_un32 h0, un32_lt _⟩, fun h => absurd (by omega) h⟩
  · exact ⟨fun _ => ⟨u32_un32 h1, un32_lt _⟩, fun h => absurd (by omega) h⟩
  · exact ⟨fun _ => ⟨u32_un32 h2, un32_lt _⟩, fun h => absurd (by omega) h⟩
  · exact ⟨fun _ => ⟨u32_un32 h3, un32_lt _⟩, fun h => absurd (by omega) h⟩
  · exact ⟨fun h => absurd h (by omega), fun _ => ⟨u8_id h4, h4⟩⟩
  · exact ⟨fun h => absurd h (by omega), fun _ => ⟨u8_id h5, h5⟩⟩
  · exact ⟨fun h => absurd h (by omega), fun _ => ⟨u8_id h6, h6⟩⟩
set_option maxHeartbeats 1000000 in
set_option maxRecDepth 20000 in
theorem putPl (g : Nat) (S : Nat → Prop) (bs : List UInt8) (ao : Option Addr) (cap : Nat) (l : List Pl) (w : World) (h : Pls w ao l) (hS : 0 < l.length → ∀ a, ao = some a → S a.block) (hw : Ws w g S bs) (hl : l.length ≤ 1000) (hn : bs.length ≤ 1000000) :
    Calls Tryd.prog 32 #[.pointer (some ⟨g, 0, none⟩), .slice ao l.length cap, .func (.func 26) #[] #[]] w fun E w' => E = .returned (.tuple #[]) ∧ WsTo w g S (bs ++ pes l) w' := by
  have HBS := Lib.hid hn
  clear hn
  go_enter Tryd.func32, Tryd.ntmps32
  go_wp2
  go_loopw [12] (fun v wr => ∃ k : Nat, k ≤ l.length ∧ v = .int .i64 k ∧ WsTo w g S (bs ++ (l.take k).flatMap pe) wr) (fun v _ => l.length - (intOf v).toNat)
  case atStart => exact ⟨0, by omega, rfl, by simpa using ws_to hw⟩
  case round =>
    obtain ⟨k, hk, rfl, hto⟩ := hrel
    by_cases hlt : k < l.length
    · obtain ⟨hfit, b, o, rfl, hc⟩ := h k hlt
      have hSb : S b := hS (by omega) _ rfl
      have hwk : ∀ {i : Nat} {v : Value}, w.cell? ⟨b, i, none⟩ = some v → wr.cell? ⟨b, i, none⟩ = some v := fun hv => kept_cell hto.2 hSb hv
      have c0 : wr.cell? ⟨b, o + k * 7, none⟩ = some (.int .i32 (l[k]'hlt).x) := hwk (hc 0 _ rfl)
      have c1 : wr.cell? ⟨b, o + k * 7 + 1, none⟩ = some (.int .i32 (l[k]'hlt).y) := hwk (hc 1 _ rfl)
      have c2 : wr.cell? ⟨b, o + k * 7 + 2, none⟩ = some (.int .i32 (l[k]'hlt).vx) := hwk (hc 2 _ rfl)
      have c3 : wr.cell? ⟨b, o + k * 7 + 3, none⟩ = some (.int .i32 (l[k]'hlt).vy) := hwk (hc 3 _ rfl)
      have c4 : wr.cell? ⟨b, o + k * 7 + 4, none⟩ = some (.int .u8 ((l[k]'hlt).h : Int)) := hwk (hc 4 _ rfl)
      have c5 : wr.cell? ⟨b, o + k * 7 + 5, none⟩ = some (.int .u8 ((l[k]'hlt).c : Int)) := hwk (hc 5 _ rfl)
      have c6 : wr.cell? ⟨b, o + k * 7 + 6, none⟩ = some (.int .u8 ((l[k]'hlt).f : Int)) := hwk (hc 6 _ rfl)
      have HNX := Lib.hid (flat_next pe l k hlt)
      have HF := Lib.hid hfit
      have HTO := Lib.hid hto
      have HLN : Hid ((bs ++ (l.take k).flatMap pe).length ≤ 1100000) := by
        have h1 := pes_len (l.take k)
        have h2 := HBS.out
        simp only [pes, List.length_take] at h1
        show _ ≤ _
        rw [List.length_append, h1]
        omega
      clear hc hto h hfit hwk
      generalize hs : (l[k]'hlt) = s at *
      clear hs
      generalize hbb : bs ++ (l.take k).flatMap pe = bb at *
      have HBB := Lib.hid hbb
      clear hbb
      go_wp2_with fail
      refine (ofPlayer_c s _ HF.out).mono ?_
      rintro E w1 ⟨g1, rfl, hgs, hgc, hgb⟩
      have hws : Ws w1 g (fun k => S k ∨ k = g1) bb := ws_more HTO.out.1 ((grown_alloc _ _).trans hgb) (fun i hi => by
        rcases hi with hi | rfl
        · exact .inl hi
        · exact .inr ⟨by simp at hgs; omega, hgc.lt⟩)
      have hkp : Kept S w w1 := HTO.out.2.trans (kept_grown ((grown_alloc _ _).trans hgb) HTO.out.1.2.1 (fun _ _ => by simp))
      have HW := Lib.hid hws
      have HK := Lib.hid hkp
      have HC := Lib.hid hgc
      clear hgs hgc hgb hws hkp HTO
      go_wp2
      go_loopw [20] (fun v wr => ∃ j : Nat, j ≤ 7 ∧ v = .int .i64 j ∧ Hid (Ws wr g (fun k => S k ∨ k = g1) (bb ++ enM eN 0 (s.raw.take j))) ∧ Hid (Kept S w wr) ∧ Hid (Cells wr g1 21 (i32v s.nums))) (fun v _ => 7 - (intOf v).toNat)
      case atStart => exact ⟨0, by omega, rfl, by simpa [enM] using HW, HK, HC⟩
      case round =>
        obtain ⟨j, hj, rfl, HW2, HK2, HC2⟩ := hrel
        by_cases hlt2 : j < 7
        · have hji : (j : Int) < 7 := by omega
          have n0 : wr.cell? ⟨g1, j, none⟩ = some (.int .i32 (s.nums.getD j 0)) := by rw [HC2.out.cell, i32v_at _ _ hlt2]
          have hra := rawPl_at HF.out hlt2
          have HE := Lib.hid (enM_next s.raw j hlt2)
          have HLB : Hid ((bb ++ enM eN 0 (s.raw.take j)).length ≤ 1099511627776) := by
            have h1 := enM_len (s.raw.take j) 0
            have h2 := HLN.out
            simp only [List.length_take] at h1
            show _ ≤ _
            rw [List.length_append]
            omega
          generalize s.nums.getD j 0 = z at *
          by_cases h4 : j < 4
          · obtain ⟨r1, r2⟩ := hra.1 h4
            have hw4 : eN j (s.raw.getD j 0) = le 4 (s.raw.getD j 0) := by unfold eN wd; rw [if_pos h4]
            rw [hw4] at HE
            generalize s.raw.getD j 0 = n at *
            have R1 := Lib.hid r1
            have R2 := Lib.hid r2
            clear r1 r2 hra hw4
            go_wp2_with fail
            refine (wsI32 g n _ z _ _ HW2.out HLB.out R2.out R1.out).mono ?_
            rintro E w2 ⟨rfl, hw3⟩
            have HW3 := Lib.hid hw3
            clear hw3
            go_wp2
            go_roundw
            case rel => exact ⟨j + 1, by omega, by go_num, by rw [HE.out, ← List.append_assoc]; exact HW3.out.1, HK2.out.trans (HW3.out.2.less (fun i hi => .inl hi)), kept_cells HW3.out.2 (.inr rfl) HC2.out⟩
            case measure => simp [intOf]; omega
          · obtain ⟨r1, r2⟩ := hra.2 h4
            have hw4 : eN j (s.raw.getD j 0) = le 1 (s.raw.getD j 0) := by unfold eN wd; rw [if_neg h4]
            rw [hw4] at HE
            generalize s.raw.getD j 0 = n at *
            have R2 := Lib.hid r2
            clear r2 hra hw4
            go_wp2_with fail
            refine (wsU8 g n _ _ _ HW2.out HLB.out R2.out).mono ?_
            rintro E w2 ⟨rfl, hw3⟩
            have HW3 := Lib.hid hw3
            clear hw3
            go_wp2
            go_roundw
            case rel => exact ⟨j + 1, by omega, by go_num, by rw [HE.out, ← List.append_assoc]; exact HW3.out.1, HK2.out.trans (HW3.out.2.less (fun i hi => .inl hi)), kept_cells HW3.out.2 (.inr rfl) HC2.out⟩
            case measure => simp [intOf]; omega
        · obtain rfl : j = 7 := by omega
          go_wp2
          go_roundw
          case rel =>
            refine ⟨k + 1, by omega, by go_num, ?_, HK2.out⟩
            rw [HNX.out, ← List.append_assoc, HBB.out]
            exact ws_less (T := S) HW2.out (fun i hi => .inl hi)
          case measure => simp [intOf]; omega
    · have HG : Hid (WsTo w g S (bs ++ pes l) wr) := by
        have e : k = l.length := by omega
        rw [e, List.take_length] at hto
        exact hto
      clear hto h
      go_wp2
      go_end0
      exact ⟨rfl, HG.out⟩
end Go.Proofs.YtbmkmmkebophpaaDoor
