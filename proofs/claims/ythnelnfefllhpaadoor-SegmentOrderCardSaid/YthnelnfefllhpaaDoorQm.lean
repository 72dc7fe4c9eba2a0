/- The document's Put and Take, whole; the statements' own helpers: one contract each. Conditions: as in the texts before. -/
import Derived.Test.YthnelnfefllhpaaDoorQk
import Derived.Test.YthnelnfefllhpaaDoorQl
namespace Go.Proofs.YthnelnfefllhpaaDoor
open Go.RowKit
set_option linter.unusedVariables false
set_option linter.unusedSimpArgs false
set_option maxRecDepth 20000

attribute [local go_sem ↓] ld_dec
theorem dtake_c (l : List UInt8) (w : World) (hl : l.length ≤ 1099511627776) :
    Calls Tryd.prog 20 #[.string (str l)] w fun E w' => E = .returned (.tuple #[.agg (rcs (tkR l).2), .int .i64 (tkR l).1]) ∧ Below w.heap.size w w' := by
  rw [tkR_dT]
  by_cases h0 : l = []
  · rw [show dT l = (10, rz) from if_pos h0]
    exact dtake_empty l w hl h0
  have hp : 0 < l.length := List.length_pos_iff.2 h0
  by_cases hk : fld l 0 1 < 1 ∨ 3 < fld l 0 1
  · rw [show dT l = (4, rz) by unfold dT; rw [if_neg h0, if_pos hk]]
    exact dtake_none l w hl hp hk
  by_cases hk1 : fld l 0 1 = 1
  · have ed : dT l = if l.length < 10 then (10, rz) else if 10 < l.length then (4, rz) else if mayB (atR l) = true then (0, atR l) else (4, rz) := by
      unfold dT
      rw [if_neg h0, if_neg hk, hk1]
      rfl
    rw [ed]
    by_cases hs : l.length < 10
    · rw [if_pos hs]
      exact dtake_short1 l w hl hp hk1 hs
    · rw [if_neg hs]
      by_cases hg : 10 < l.length
      · rw [if_pos hg]
        exact dtake_long1 l w hl hp hk1 hg
      · rw [if_neg hg, show atR l = ⟨1, fld l 1 8, fld l 9 1, 0, 0, 0, 0, 0, 0⟩ from by unfold atR; rw [if_pos hk1]]
        refine dtake_full1 l w hp hk1 (by omega) _ (fun hm w' hb => ?_) (fun hm w' hb => ?_)
        · rw [if_pos hm]; exact ⟨rfl, hb⟩
        · rw [if_neg (by simp [hm])]; exact ⟨rfl, hb⟩
  by_cases hk2 : fld l 0 1 = 2
  · have ed : dT l = if l.length < 11 then (10, rz) else if 11 < l.length then (4, rz) else if mayB (atR l) = true then (0, atR l) else (4, rz) := by
      unfold dT
      rw [if_neg h0, if_neg hk, hk2]
      rfl
    rw [ed]
    by_cases hs : l.length < 11
    · rw [if_pos hs]
      exact dtake_short2 l w hl hp hk2 hs
    · rw [if_neg hs]
      by_cases hg : 11 < l.length
      · rw [if_pos hg]
        exact dtake_long2 l w hl hp hk2 hg
      · rw [if_neg hg, show atR l = ⟨2, fld l 1 8, 0, fld l 9 1, fld l 10 1, 0, 0, 0, 0⟩ from by unfold atR; rw [hk2]; rfl]
        refine dtake_full2 l w hp hk2 (by omega) _ (fun hm w' hb => ?_) (fun hm w' hb => ?_)
        · rw [if_pos hm]; exact ⟨rfl, hb⟩
        · rw [if_neg (by simp [hm])]; exact ⟨rfl, hb⟩
  by_cases hk3 : fld l 0 1 = 3
  · have ed : dT l = if l.length < 26 then (10, rz) else if 26 < l.length then (4, rz) else if mayB (atR l) = true then (0, atR l) else (4, rz) := by
      unfold dT
      rw [if_neg h0, if_neg hk, hk3]
      rfl
    rw [ed]
    by_cases hs : l.length < 26
    · rw [if_pos hs]
      exact dtake_short3 l w hl hp hk3 hs
    · rw [if_neg hs]
      by_cases hg : 26 < l.length
      · rw [if_pos hg]
        exact dtake_long3 l w hl hp hk3 hg
      · rw [if_neg hg, show atR l = ⟨3, 0, 0, 0, 0, fld l 1 8, fld l 9 8, fld l 17 8, fld l 25 1⟩ from by unfold atR; rw [hk3]; rfl]
        refine dtake_full3 l w hp hk3 (by omega) _ (fun hm w' hb => ?_) (fun hm w' hb => ?_)
        · rw [if_pos hm]; exact ⟨rfl, hb⟩
        · rw [if_neg (by simp [hm])]; exact ⟨rfl, hb⟩
  omega
/-! The statements' own helpers. -/
attribute [local go_sem ↓] ld_rec st_rec
theorem re_zero (a : Rc) (w : World) : (binOp .eql 28 (.agg (rcs a)) (.agg #[.int .i64 0, .int .u64 0, .int .u8 0, .int .u8 0, .int .u8 0, .int .u64 0, .int .u64 0, .int .u64 0, .int .u8 0])).run Tryd.prog w = .ok (.bool (reB a rz)) w := re_eql a rz _ (.inl rfl) w
end Go.Proofs.YthnelnfefllhpaaDoor
