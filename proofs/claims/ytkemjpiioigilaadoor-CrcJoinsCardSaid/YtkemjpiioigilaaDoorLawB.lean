/- The statements CrcKnown, CrcParts, CrcTail of layer 3: the Go functions return true. Conditions: the table of four steps lies in its variable. -/
import Derived.Test.YtkemjpiioigilaaDoorLaw
namespace Go.Proofs.YtkemjpiioigilaaDoor
open Go.RowKit
set_option linter.unusedVariables false

theorem updateTo (c : Nat) (s : List UInt8) (r : Nat) (w : World) (hc : c < 4294967296) (hs : s.length ≤ maxLen) (ht : Tab w) (h : upd c s = r) :
    Calls Tryd.prog 12 #[.int .u32 c, .string (str s)] w fun E w' => E = .returned (.int .u32 (r : Int)) ∧ w.grownBy w' none := by
  subst h; exact update c s w hc hs ht
theorem joinTo (a b : Nat) (n : Int) (r : Nat) (w : World) (ha : a < 4294967296) (hb : b < 4294967296) (ht : Tab w) (h : joined a b (clip n) = r) :
    Calls Tryd.prog 14 #[.int .u32 a, .int .u32 b, .int .i64 n] w fun E w' => E = .returned (.int .u32 (r : Int)) ∧ w = w' := by
  subst h; exact join a b n w ha hb ht
set_option maxHeartbeats 1000000 in
theorem lawKnown (w : World) (ht : Tab w) :
    Calls Tryd.prog 5 #[] w (Yes w) := by
  have HT := Lib.hid ht
  clear ht
  go_enter Tryd.func5, Tryd.ntmps5
  go_wp2_with fail
  refine (sumAt [97] 3904355907 _ (by decide) HT.out (by decide +kernel)).mono ?_
  rintro E w1 ⟨rfl, hg⟩
  have HG1 := Lib.hid hg
  have HT1 := Lib.hid (tab_grown HT.out hg)
  clear hg
  go_wp2_with fail
  refine (sumAt [0] 3523407757 _ (by decide) HT1.out (by decide +kernel)).mono ?_
  rintro E w2 ⟨rfl, hg⟩
  have HG2 := Lib.hid (HG1.out.trans hg)
  have HT2 := Lib.hid (tab_grown HT1.out hg)
  clear hg
  go_wp2_with fail
  refine (sumAt [49, 50, 51, 52] 2615402659 _ (by decide) HT2.out (by decide +kernel)).mono ?_
  rintro E w3 ⟨rfl, hg⟩
  have HG3 := Lib.hid (HG2.out.trans hg)
  have HT3 := Lib.hid (tab_grown HT2.out hg)
  clear hg
  go_wp2_with fail
  refine (updateAt 2615402659 [53, 54, 55, 56, 57] 3421780262 _ (by decide) (by decide) (by decide) HT3.out (by decide +kernel)).mono ?_
  rintro E w4 ⟨rfl, hg⟩
  have HG4 := Lib.hid (HG3.out.trans hg)
  have HT4 := Lib.hid (tab_grown HT3.out hg)
  clear hg
  go_wp2_with fail
  refine (sumAt [49, 50, 51, 52] 2615402659 _ (by decide) HT4.out (by decide +kernel)).mono ?_
  rintro E w5 ⟨rfl, hg⟩
  have HG5 := Lib.hid (HG4.out.trans hg)
  have HT5 := Lib.hid (tab_grown HT4.out hg)
  clear hg
  go_wp2_with fail
  refine (sumAt [53, 54, 55, 56, 57] 320708720 _ (by decide) HT5.out (by decide +kernel)).mono ?_
  rintro E w6 ⟨rfl, hg⟩
  have HG6 := Lib.hid (HG5.out.trans hg)
  have HT6 := Lib.hid (tab_grown HT5.out hg)
  clear hg
  go_wp2_with fail
  refine (joinAt 2615402659 320708720 5 3421780262 _ (by decide) (by decide) (by decide) (by decide) HT6.out (by decide +kernel)).mono ?_
  rintro E w7 ⟨rfl, rfl⟩
  go_wp2_with fail
  refine (sumAt [49, 50, 51, 52, 53, 54, 55, 56, 57, 38, 57, 244, 203] 558161692 _ (by decide) HT6.out (by decide +kernel)).mono ?_
  rintro E w7 ⟨rfl, hg⟩
  have HG7 := Lib.hid (HG6.out.trans hg)
  have HT7 := Lib.hid (tab_grown HT6.out hg)
  clear hg
  go_wp2_with fail
  refine (awake _ HT7.out).mono ?_
  rintro E w8 ⟨rfl, hg⟩
  go_wp2
  go_ret
  exact yes_of (HG7.out.trans hg)
theorem parts_join (a b : List UInt8) (hb : b.length ≤ 20000) : joined (upd 0 a) (upd 0 b) (clip b.length) = upd 0 (a ++ b) := by
  have hk : clip (b.length : Int) = b.length := by unfold clip; omega
  rw [hk, ← join_eq, join_upd a b _ rfl]
set_option maxHeartbeats 1000000 in
theorem lawParts (a b : List UInt8) (w : World) (ha : a.length ≤ maxLen) (hb : b.length ≤ maxLen) (ht : Tab w) :
    Calls Tryd.prog 6 #[.string (str a), .string (str b)] w (Yes w) := by
  have HT := Lib.hid ht
  have hsa := str_size a
  have hsb := str_size b
  unfold maxLen at ha hb
  clear ht
  have h3 : 20000 < a.length ∨ (a.length ≤ 20000 ∧ 20000 < b.length) ∨ (a.length ≤ 20000 ∧ b.length ≤ 20000) := by omega
  rcases h3 with h3 | ⟨h3, h4⟩ | ⟨h3, h4⟩
  · go_enter Tryd.func6, Tryd.ntmps6
    go_wp2_with fail
    refine (awake _ HT.out).mono ?_
    rintro E w1 ⟨rfl, hg1⟩
    go_wp2
    go_ret
    exact yes_of hg1
  · go_enter Tryd.func6, Tryd.ntmps6
    go_wp2_with fail
    refine (awake _ HT.out).mono ?_
    rintro E w1 ⟨rfl, hg1⟩
    go_wp2
    go_ret
    exact yes_of hg1
  · have hap := str_append a b
    have HA : Hid (a.length ≤ maxLen) := by show _ ≤ _; unfold maxLen; omega
    have HB : Hid (b.length ≤ maxLen) := by show _ ≤ _; unfold maxLen; omega
    have HAB : Hid ((a ++ b).length ≤ maxLen) := by show _ ≤ _; unfold maxLen; simp; omega
    have HL := Lib.hid (upd_lt 0 a (by omega))
    have HL2 := Lib.hid (upd_lt 0 b (by omega))
    have HU := Lib.hid (upd_append 0 a b)
    have HJ := Lib.hid (parts_join a b h4)
    go_enter Tryd.func6, Tryd.ntmps6
    go_wp2_with fail
    refine (sum (a ++ b) _ HAB.out HT.out).mono ?_
    rintro E w1 ⟨rfl, hg⟩
    have HG1 := Lib.hid hg
    have HT1 := Lib.hid (tab_grown HT.out hg)
    clear hg
    go_wp2_with fail
    refine (sum a _ HA.out HT1.out).mono ?_
    rintro E w2 ⟨rfl, hg⟩
    have HG2 := Lib.hid (HG1.out.trans hg)
    have HT2 := Lib.hid (tab_grown HT1.out hg)
    clear hg
    go_wp2_with fail
    refine (updateTo (upd 0 a) b _ _ HL.out HB.out HT2.out HU.out.symm).mono ?_
    rintro E w3 ⟨rfl, hg⟩
    have HG3 := Lib.hid (HG2.out.trans hg)
    have HT3 := Lib.hid (tab_grown HT2.out hg)
    clear hg
    go_wp2_with fail
    refine (sum a _ HA.out HT3.out).mono ?_
    rintro E w4 ⟨rfl, hg⟩
    have HG4 := Lib.hid (HG3.out.trans hg)
    have HT4 := Lib.hid (tab_grown HT3.out hg)
    clear hg
    go_wp2_with fail
    refine (sum b _ HB.out HT4.out).mono ?_
    rintro E w5 ⟨rfl, hg⟩
    have HG5 := Lib.hid (HG4.out.trans hg)
    have HT5 := Lib.hid (tab_grown HT4.out hg)
    clear hg
    go_wp2_with fail
    refine (joinTo (upd 0 a) (upd 0 b) b.length _ _ HL.out HL2.out HT5.out HJ.out).mono ?_
    rintro E w6 ⟨rfl, rfl⟩
    go_wp2_with fail
    refine (awake _ HT5.out).mono ?_
    rintro E w6 ⟨rfl, hg⟩
    go_wp2
    go_ret
    exact yes_of (HG5.out.trans hg)
theorem byte_int (m : Nat) (h : m < 256) : ((UInt8.ofNat m).toNat : Int) = (m : Int) := by
  rw [UInt8.toNat_ofNat']; omega
theorem four_cells (w : World) (u : Nat) (hu : u < 4294967296) :
    (convert 30 9 (.slice (some ⟨w.heap.size, 0, none⟩) 4 4)).run Tryd.prog (w.alloc (.cells #[.int .u8 ((u : Int) % 256), .int .u8 ((u : Int) / 256 % 256), .int .u8 ((u : Int) / 65536 % 256), .int .u8 ((u : Int) / 16777216)] 5)) =
      .ok (.string (str (fourBytes u))) (w.alloc (.cells #[.int .u8 ((u : Int) % 256), .int .u8 ((u : Int) / 256 % 256), .int .u8 ((u : Int) / 65536 % 256), .int .u8 ((u : Int) / 16777216)] 5)) := by
  have e0 := byte_int (u % 256) (by omega)
  have e1 := byte_int (u / 256 % 256) (by omega)
  have e2 := byte_int (u / 65536 % 256) (by omega)
  have e3 := byte_int (u / 16777216 % 256) (by omega)
  have e4 : u / 16777216 % 256 = u / 16777216 := by omega
  refine run_convert_bytes_back (P := Tryd.prog) _ 30 9 5 ⟨w.heap.size, 0, none⟩ 4 (fourBytes u) Tryd.underlying30 Tryd.underlying5 Tryd.underlying9 (fun j hj => ?_)
  have e : (⟨w.heap.size, 0, none⟩ : Addr).add j = ⟨w.heap.size, j, none⟩ := by unfold Addr.add; split <;> simp_all
  rw [e, (Cells.made w 5 _).cell j]
  have hj4 : j = 0 ∨ j = 1 ∨ j = 2 ∨ j = 3 := by simp [fourBytes] at hj; omega
  rcases hj4 with rfl | rfl | rfl | rfl
  · simp only [fourBytes, List.getElem_cons_zero]; rw [e0]; simp
  · simp only [fourBytes, List.getElem_cons_succ, List.getElem_cons_zero]; rw [e1]; simp
  · simp only [fourBytes, List.getElem_cons_succ, List.getElem_cons_zero]; rw [e2]; simp
  · simp only [fourBytes, List.getElem_cons_succ, List.getElem_cons_zero]; rw [e3, e4]; simp
set_option maxHeartbeats 1000000 in
theorem lawTail (s : List UInt8) (w : World) (hs : s.length ≤ maxLen) (ht : Tab w) :
    Calls Tryd.prog 8 #[.string (str s)] w (Yes w) := by
  have HT := Lib.hid ht
  have hsz := str_size s
  have HS := Lib.hid hs
  unfold maxLen at hs
  clear ht
  by_cases hbig : 20000 < s.length
  · go_enter Tryd.func8, Tryd.ntmps8
    go_wp2_with fail
    refine (awake _ HT.out).mono ?_
    rintro E w1 ⟨rfl, hg1⟩
    go_wp2
    go_ret
    exact yes_of hg1
  · have hlt := upd_lt 0 s (by omega)
    have HF : Hid (((upd 0 (s ++ fourBytes (upd 0 s)) : Nat) : Int) = 558161692) := by show _ = _; rw [upd_tail]; rfl
    have HL : Hid ((s ++ fourBytes (upd 0 s)).length ≤ maxLen) := by show _ ≤ _; unfold maxLen; simp [fourBytes]; omega
    go_enter Tryd.func8, Tryd.ntmps8
    go_wp2_with fail
    refine (sum s _ HS.out HT.out).mono ?_
    rintro E w1 ⟨rfl, hg1⟩
    have HG1 := Lib.hid hg1
    have HT1 := Lib.hid (tab_grown HT.out hg1)
    clear hg1
    generalize upd 0 s = u at *
    have hcv := four_cells w1 u hlt
    have hap := str_append s (fourBytes u)
    have hs4 : (str (fourBytes u)).size = 4 := str_size _
    go_wp2_with fail
    have HG2 := Lib.hid (HG1.out.trans (World.grownBy_alloc w1 (.cells #[.int .u8 ((u : Int) % 256), .int .u8 ((u : Int) / 256 % 256), .int .u8 ((u : Int) / 65536 % 256), .int .u8 ((u : Int) / 16777216)] 5) none))
    have HT2 := Lib.hid (tab_grown HT.out HG2.out)
    refine (sumAt (s ++ fourBytes u) 558161692 _ HL.out HT2.out HF.out).mono ?_
    rintro E w2 ⟨rfl, hg⟩
    have HG3 := Lib.hid (HG2.out.trans hg)
    have HT3 := Lib.hid (tab_grown HT2.out hg)
    clear hg
    go_wp2_with fail
    refine (awake _ HT3.out).mono ?_
    rintro E w3 ⟨rfl, hg⟩
    go_wp2
    go_ret
    exact yes_of (HG3.out.trans hg)
end Go.Proofs.YtkemjpiioigilaaDoor
