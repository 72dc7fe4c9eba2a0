/- Acts in a slice; few. -/
import Derived.Test.YtecchaogpcpooaaDw
namespace Go.Proofs.Ytecchaogpcpooaa
open Go.RowKit Go.Shelf
set_option linter.unusedVariables false
set_option linter.unusedSimpArgs false
set_option maxRecDepth 100000

/-- Acts that can be read there. -/
def Acs (w : World) (ao : Option Addr) (l : List Act2) : Prop :=
  ∀ j (h : j < l.length), ∃ b o, ao = some ⟨b, o, none⟩ ∧ (∀ i v, ((l[j]'h).cs)[i]? = some v → w.cell? ⟨b, o + j * 5 + i, none⟩ = some v) ∧ (l[j]'h).ok w
theorem Act2.ok.to {w w' : World} {a : Act2} (h : a.ok w) (hb : Below w.heap.size w w') : a.ok w' :=
  ⟨h.c, h.n, h.t, h.b, h.k, h.i.tu (S := fun _ => False) (.new hb) (fun _ _ h => h), fun x hx hn => Nat.lt_of_lt_of_le (h.lo x hx hn) hb.size⟩
theorem Acs.to {w w' : World} {ao : Option Addr} {l : List Act2} (h : Acs w ao l) (hb : Below w.heap.size w w') : Acs w' ao l := fun j hj => by
  obtain ⟨b, o, e, hc, hk⟩ := h j hj
  refine ⟨b, o, e, fun i v hv => ?_, hk.to hb⟩
  have h1 := hc i v hv
  have hlt := World.block_lt_of_cell? w _ h1
  rw [hb.cell (p := ⟨b, o + j * 5 + i, none⟩) hlt]
  exact h1
def FewPost (w : World) (R : Ending) (w' : World) : Prop := ∃ z, R = .returned (.bool z) ∧ w = w'
set_option maxHeartbeats 1000000 in
theorem few_c (w : World) {ao : Option Addr} {cap : Nat} {l : List Act2} (h : Acs w ao l) (hl : l.length ≤ maxLen) :
    Calls Try.prog 9 #[.slice ao l.length cap] w (FewPost w) := by
  simp only [maxLen] at hl
  have H := Lib.hid h
  clear h
  go_enter Try.func9, Try.ntmps9
  go_wp2
  go_loop [3] (fun i => ∃ k : Nat, k ≤ l.length ∧ i = .int .i64 k) (fun i => l.length - (intOf i).toNat)
  case atStart => exact ⟨0, Nat.zero_le _, rfl⟩
  case round =>
    obtain ⟨k, hk, rfl⟩ := hrel
    by_cases hlt : k < l.length
    · by_cases h120 : k < 120
      · obtain ⟨b, o, rfl, hc, hok⟩ := H.out k hlt
        have c1 : w.cell? ⟨b, o + k * 5 + 1, none⟩ = some (.string (str (l[k]'hlt).n)) := hc 1 _ rfl
        have c2 : w.cell? ⟨b, o + k * 5 + 2, none⟩ = some (.string (str (l[k]'hlt).t)) := hc 2 _ rfl
        have c3 : w.cell? ⟨b, o + k * 5 + 3, none⟩ = some (.string (str (l[k]'hlt).b)) := hc 3 _ rfl
        have s1 := str_size (l[k]'hlt).n
        have s2 := str_size (l[k]'hlt).t
        have s3 := str_size (l[k]'hlt).b
        have hn := hok.n
        have ht := hok.t
        have hb := hok.b
        simp only [maxLen] at hn ht hb
        clear hc hok
        generalize (l[k]'hlt).n = an at *
        generalize (l[k]'hlt).t = at' at *
        generalize (l[k]'hlt).b = ab at *
        by_cases h3 : 3000 < ab.length
        · go_wp2
          go_ret
          exact ⟨_, rfl, rfl⟩
        · by_cases h1 : 100 < an.length
          · go_wp2
            go_ret
            exact ⟨_, rfl, rfl⟩
          · by_cases h2 : 100 < at'.length
            · go_wp2
              go_ret
              exact ⟨_, rfl, rfl⟩
            · go_wp2
              go_round
              case rel => exact ⟨k + 1, by omega, by go_num⟩
              case measure => simp [intOf]; omega
      · go_wp2
        go_ret
        exact ⟨_, rfl, rfl⟩
    · have hx : k = l.length := by omega
      have HX := Lib.hid hx
      clear hx
      go_wp2
      go_ret
      exact ⟨_, rfl, rfl⟩
end Go.Proofs.Ytecchaogpcpooaa
