/- The document's reader for layer 2: texts, the rest, the errors: one contract each. -/
import Derived.Test.YtbmkmmkebophpaaDoorRfC
namespace Go.Proofs.YtbmkmmkebophpaaDoor
open Go.RowKit
set_option linter.unusedVariables false

theorem cells_put {w : World} {g i : Nat} {t : TypeId} {cs cs' : Array Value} {v : Value} (h : Cells w g t cs) (n : Nat) (he : cs.setIfInBounds i v = cs') : Cells ((w.drewN n).setCell ⟨g, i, none⟩ v) g t cs' :=
  he ▸ Cells.set (w := w.drewN n) h i v
theorem refRest (g : Nat) (l : List UInt8) (e : Int) (w : World) (h : Rf w g l e) :
    Calls Tryd.prog 53 #[.pointer (some ⟨g, 0, none⟩)] w fun E w' => E = .returned (.string (str l)) ∧ w.grownBy w' none := by
  obtain ⟨S, p, hc, h0, h1⟩ := h
  have c0 := rf_c0 hc
  have c1 := rf_c1 hc
  have c2 := rf_c2 hc
  have hs := str_size S
  have hp := hc.2.1
  have hl := hc.2.2
  by_cases he : e = 0
  · have hb : (e != 0) = false := by simp [he]
    have HL := Lib.hid (h0 he)
    have HX := Lib.hid (str_rest S p)
    clear he h0 h1
    go_enter Tryd.func53, Tryd.ntmps53
    go_wp2
    go_quiet (fail)
    go_wp2
    go_ret
    exact ⟨by rw [HL.out, ← HX.out]; rfl, grown_drewN w _ _⟩
  · have hb : (e != 0) = true := by simp [he]
    have HL := Lib.hid (h1 he)
    clear he h0 h1
    go_enter Tryd.func53, Tryd.ntmps53
    go_wp2
    go_ret
    exact ⟨by rw [HL.out]; rfl, grown_refl w _⟩

end Go.Proofs.YtbmkmmkebophpaaDoor
