/- Plain mathematics of layer 1 (numbers of 256ths): bounding, keeping within, dividing downward. No program is named here. Nothing is assumed. -/
namespace Go.Proofs.Ytcaolnhlihkppaa
set_option linter.unusedVariables false

/-- A whole number within the ends of 32 bits. -/
def bnd (n : Int) : Int := if n < -2147483648 then -2147483648 else if 2147483647 < n then 2147483647 else n
/-- A number within two others; the low one, where the high one is below it. -/
def wit (n l h : Int) : Int := if n < l ∨ h < l then l else if h < n then h else n
/-- A quotient, to below. -/
def fl (a b : Int) : Int := if 0 < b then a / b else (-a) / (-b)

theorem bnd_range (n : Int) : -2147483648 ≤ bnd n ∧ bnd n ≤ 2147483647 := by unfold bnd; (repeat' split) <;> omega
theorem wit_bnd (n : Int) : wit n (-2147483648) 2147483647 = bnd n := by unfold bnd wit; simp
theorem bnd_mono {m n : Int} (h : m ≤ n) : bnd m ≤ bnd n := by unfold bnd; (repeat' split) <;> omega

theorem fl_pos {a b : Int} (h : 0 < b) : fl a b = a / b := if_pos h
theorem fl_neg {a b : Int} (h : b < 0) : fl a b = (-a) / (-b) := if_neg (by omega)
theorem fl_swap {a b : Int} (h : b ≠ 0) : fl (-a) (-b) = fl a b := by
  unfold fl; by_cases hb : 0 < b
  · rw [if_neg (by omega), if_pos hb]; simp
  · rw [if_pos (by omega), if_neg hb]
/-- What the quotient is, without division. -/
theorem fl_spec_pos {a b : Int} (h : 0 < b) : b * fl a b ≤ a ∧ a < b * (fl a b + 1) := by
  rw [fl_pos h]
  have h1 := Int.mul_ediv_add_emod a b
  have h2 := Int.emod_nonneg a (by omega : b ≠ 0)
  have h3 := Int.emod_lt_of_pos a h
  rw [Int.mul_add]; omega
theorem fl_unique_pos {a b q : Int} (h : 0 < b) (h1 : b * q ≤ a) (h2 : a < b * (q + 1)) : fl a b = q := by
  have ⟨g1, g2⟩ := fl_spec_pos (a := a) h
  have e1 : fl a b < q + 1 := Int.lt_of_mul_lt_mul_left (Int.lt_of_le_of_lt g1 h2) (by omega)
  have e2 : q < fl a b + 1 := Int.lt_of_mul_lt_mul_left (Int.lt_of_le_of_lt h1 g2) (by omega)
  omega
theorem fl_bound {a b M : Int} (hb : b ≠ 0) (h1 : -M ≤ a) (h2 : a ≤ M) : -M ≤ fl a b ∧ fl a b ≤ M := by
  have key : ∀ a b : Int, 0 < b → -M ≤ a → a ≤ M → -M ≤ fl a b ∧ fl a b ≤ M := by
    intro a b hb h1 h2
    have ⟨g1, g2⟩ := fl_spec_pos (a := a) hb
    generalize fl a b = q at *
    refine ⟨?_, ?_⟩
    · rcases (by omega : q < -M ∨ -M ≤ q) with c | c
      · have : b * (q + 1) ≤ 1 * (q + 1) ∨ 0 < q + 1 := by
          rcases (by omega : 0 < q + 1 ∨ q + 1 ≤ 0) with d | d
          · exact Or.inr d
          · exact Or.inl (Int.mul_le_mul_of_nonpos_right (by omega) d)
        omega
      · exact c
    · rcases (by omega : M < q ∨ q ≤ M) with c | c
      · have : 1 * q ≤ b * q := Int.mul_le_mul_of_nonneg_right (by omega) (by omega)
        omega
      · exact c
  rcases Int.lt_or_gt_of_ne hb with c | c
  · rw [← fl_swap hb]; exact key (-a) (-b) (by omega) (by omega) (by omega)
  · exact key a b c h1 h2

/-! Go's own division rounds to 0. -/
theorem neg_floor (c d : Int) (hd : 0 < d) : (c % d = 0 → (-c) / d = -(c / d)) ∧ (c % d ≠ 0 → (-c) / d = -(c / d) - 1) := by
  have h1 := Int.mul_ediv_add_emod c d
  have h2 := Int.emod_nonneg c (by omega : d ≠ 0)
  have h3 := Int.emod_lt_of_pos c hd
  refine ⟨fun h => ?_, fun h => ?_⟩
  · rw [← fl_pos hd (a := -c)]; refine fl_unique_pos hd ?_ ?_
    · rw [Int.mul_neg]; omega
    · rw [Int.mul_add, Int.mul_neg]; omega
  · rw [← fl_pos hd (a := -c)]; refine fl_unique_pos hd ?_ ?_
    · rw [Int.mul_sub, Int.mul_neg]; omega
    · rw [Int.mul_add, Int.mul_sub, Int.mul_neg]; omega
theorem tdiv_np {a b : Int} (ha : a < 0) (hb : 0 < b) : a.tdiv b = -((-a) / b) ∧ a.tmod b = -((-a) % b) := by
  obtain ⟨c, rfl⟩ : ∃ c, a = -c := ⟨-a, by omega⟩
  rw [Int.neg_tdiv, Int.neg_tmod, Int.tdiv_eq_ediv_of_nonneg (by omega), Int.tmod_eq_emod_of_nonneg (by omega)]; simp
theorem tdiv_pn {a b : Int} (ha : 0 ≤ a) (hb : b < 0) : a.tdiv b = -(a / (-b)) ∧ a.tmod b = a % (-b) := by
  obtain ⟨c, rfl⟩ : ∃ c, b = -c := ⟨-b, by omega⟩
  rw [Int.tdiv_neg, Int.tmod_neg, Int.tdiv_eq_ediv_of_nonneg (by omega), Int.tmod_eq_emod_of_nonneg (by omega)]; simp
theorem tdiv_nn {a b : Int} (ha : a < 0) (hb : b < 0) : a.tdiv b = (-a) / (-b) ∧ a.tmod b = -((-a) % (-b)) := by
  obtain ⟨c, rfl⟩ : ∃ c, b = -c := ⟨-b, by omega⟩
  obtain ⟨d, rfl⟩ : ∃ d, a = -d := ⟨-a, by omega⟩
  rw [Int.tdiv_neg, Int.tmod_neg, Int.neg_tdiv, Int.neg_tmod, Int.tdiv_eq_ediv_of_nonneg (by omega), Int.tmod_eq_emod_of_nonneg (by omega)]; simp
/-- How the quotient to below comes of the one to 0. -/
theorem fl_of_tdiv (a b : Int) (hb : b ≠ 0) :
    (a.tmod b = 0 → a.tdiv b = fl a b) ∧ (decide (a < 0) = decide (b < 0) → a.tdiv b = fl a b) ∧ (a.tmod b ≠ 0 → decide (a < 0) ≠ decide (b < 0) → a.tdiv b - 1 = fl a b) := by
  rcases (by omega : a < 0 ∨ 0 ≤ a) with ha | ha <;> rcases (by omega : b < 0 ∨ 0 < b) with h | h
  · have ⟨e1, e2⟩ := tdiv_nn ha h
    rw [fl_neg h, e1]; exact ⟨fun _ => rfl, fun _ => rfl, fun _ c => by simp [ha, h] at c⟩
  · have ⟨e1, e2⟩ := tdiv_np ha h
    have ⟨g1, g2⟩ := neg_floor (-a) b h
    rw [Int.neg_neg] at g1 g2
    rw [fl_pos h, e1, e2]
    refine ⟨fun c => (g1 (by omega)).symm, fun c => ?_, fun c _ => (g2 (by omega)).symm⟩
    have : ¬ b < 0 := by omega
    simp [ha, this] at c
  · have ⟨e1, e2⟩ := tdiv_pn ha h
    have ⟨g1, g2⟩ := neg_floor a (-b) (by omega)
    rw [fl_neg h, e1, e2]
    refine ⟨fun c => (g1 (by omega)).symm, fun c => ?_, fun c _ => (g2 (by omega)).symm⟩
    have : ¬ a < 0 := by omega
    simp [h, this] at c
  · rw [fl_pos h, Int.tdiv_eq_ediv_of_nonneg ha]
    have h1 : ¬ a < 0 := by omega
    have h2 : ¬ b < 0 := by omega
    exact ⟨fun _ => rfl, fun _ => rfl, fun _ c => by simp [h1, h2] at c⟩
theorem tdiv_bound {a b M : Int} (hb : b ≠ 0) (h1 : -M ≤ a) (h2 : a ≤ M) : -M ≤ a.tdiv b ∧ a.tdiv b ≤ M := by
  have key : ∀ c d : Int, 0 < d → 0 ≤ c → c ≤ M → 0 ≤ c / d ∧ c / d ≤ M := by
    intro c d hd h1 h2
    have a1 := Int.ediv_nonneg h1 (by omega : 0 ≤ d)
    have a2 := Int.ediv_le_self d h1
    omega
  rcases (by omega : a < 0 ∨ 0 ≤ a) with ha | ha <;> rcases (by omega : b < 0 ∨ 0 < b) with h | h
  · have := key (-a) (-b) (by omega) (by omega) (by omega); rw [(tdiv_nn ha h).1]; omega
  · have := key (-a) b (by omega) (by omega) (by omega); rw [(tdiv_np ha h).1]; omega
  · have := key a (-b) (by omega) (by omega) (by omega); rw [(tdiv_pn ha h).1]; omega
  · have := key a b (by omega) (by omega) (by omega); rw [Int.tdiv_eq_ediv_of_nonneg ha]; omega
/-- A quotient to below of a number below 0, by adding ahead of dividing. -/
theorem fl_ceil {a b : Int} (hb : 0 < b) : -((-a + b - 1) / b) = a / b := by
  have h1 := Int.mul_ediv_add_emod (-a + b - 1) b
  have h2 := Int.emod_nonneg (-a + b - 1) (by omega : b ≠ 0)
  have h3 := Int.emod_lt_of_pos (-a + b - 1) hb
  rw [← fl_pos hb (a := a)]; symm; refine fl_unique_pos hb ?_ ?_
  · rw [Int.mul_neg]; omega
  · rw [Int.mul_add, Int.mul_neg]; omega
theorem mul_bound {a b A B : Int} (h1 : -A ≤ a) (h2 : a ≤ A) (h3 : -B ≤ b) (h4 : b ≤ B) : -(A * B) ≤ a * b ∧ a * b ≤ A * B := by
  have m1 := Int.mul_nonneg (by omega : 0 ≤ A - a) (by omega : 0 ≤ B - b)
  have m2 := Int.mul_nonneg (by omega : 0 ≤ A + a) (by omega : 0 ≤ B + b)
  have m3 := Int.mul_nonneg (by omega : 0 ≤ A - a) (by omega : 0 ≤ B + b)
  have m4 := Int.mul_nonneg (by omega : 0 ≤ A + a) (by omega : 0 ≤ B - b)
  simp only [Int.sub_mul, Int.mul_sub, Int.add_mul, Int.mul_add] at m1 m2 m3 m4
  omega

/-- What stands for a quotient by 0. -/
def lm (a : Int) : Int := if 0 < a then 2147483647 else if a < 0 then -2147483648 else 0
/-- The quotient of the document: at a divisor 0 an end, or 0. -/
def dv (a b : Int) : Int := if b = 0 then lm a else bnd (fl (256 * a) b)
/-- The quotient to 0, bounded. -/
def tr (n b : Int) : Int := if b = 0 then 0 else bnd (n.tdiv b)
/-- Without a sign. -/
def ab (a : Int) : Int := if a < 0 then bnd (-a) else a
theorem bnd_256 (n : Int) : bnd (256 * bnd n) = bnd (256 * n) := by unfold bnd; (repeat' split) <;> omega
theorem bnd_in {n : Int} (h1 : -2147483648 ≤ n) (h2 : n ≤ 2147483647) : bnd n = n := by unfold bnd; rw [if_neg (by omega), if_neg (by omega)]

/-! Roots. -/
/-- r is the root of the whole number s, to below. -/
def SqIs (s r : Int) : Prop := 0 ≤ r ∧ r * r ≤ s ∧ s < (r + 1) * (r + 1)
/-- The root of the document: of 256 times the number; 0 for a number below 0. -/
def RootIs (n r : Int) : Prop := (n < 0 ∧ r = 0) ∨ (0 ≤ n ∧ SqIs (256 * n) r)
theorem sq_exists (s : Int) (h : 0 ≤ s) : ∃ r, SqIs s r := by
  obtain ⟨n, rfl⟩ := Int.eq_ofNat_of_zero_le h
  clear h
  induction n with
  | zero => exact ⟨0, by unfold SqIs; simp⟩
  | succ n ih =>
    obtain ⟨r, r0, r1, r2⟩ := ih
    by_cases c : ((n + 1 : Nat) : Int) < (r + 1) * (r + 1)
    · exact ⟨r, r0, by omega, c⟩
    · refine ⟨r + 1, by omega, by omega, ?_⟩
      have e : (r + 1 + 1) * (r + 1 + 1) = (r + 1) * (r + 1) + 2 * r + 3 := by
        rw [Int.add_mul (r + 1) 1, Int.mul_add (r + 1) (r + 1) 1]; omega
      omega
theorem root_exists (n : Int) : ∃ r, RootIs n r := by
  by_cases h : n < 0
  · exact ⟨0, Or.inl ⟨h, rfl⟩⟩
  · obtain ⟨r, hr⟩ := sq_exists (256 * n) (by omega)
    exact ⟨r, Or.inr ⟨by omega, hr⟩⟩
theorem sq_le_iff {s r k : Int} (h : SqIs s r) (hk : 0 ≤ k) : k * k ≤ s ↔ k ≤ r := by
  obtain ⟨r0, r1, r2⟩ := h
  refine ⟨fun c => ?_, fun c => ?_⟩
  · rcases (by omega : k ≤ r ∨ r + 1 ≤ k) with d | d
    · exact d
    · have := Int.mul_le_mul d d (by omega) hk
      omega
  · have := Int.mul_le_mul c c hk r0
    omega
theorem sq_lt {s r B : Int} (h : SqIs s r) (hB : 0 ≤ B) (hs : s < B * B) : r < B := by
  have := (sq_le_iff h hB)
  omega
/-- One bit of a root: what it is down to a power of two, and down to its half. -/
theorem bit_step (r p : Int) (h0 : 0 ≤ r) (hp : 0 < p) :
    0 ≤ r / (2 * p) * (2 * p) ∧ r / (2 * p) * (2 * p) ≤ r ∧ (r / (2 * p) * (2 * p) + p ≤ r → r / p * p = r / (2 * p) * (2 * p) + p) ∧ (¬ r / (2 * p) * (2 * p) + p ≤ r → r / p * p = r / (2 * p) * (2 * p)) := by
  have h1 := Int.mul_ediv_add_emod r (2 * p)
  have h2 := Int.emod_nonneg r (by omega : 2 * p ≠ 0)
  have h3 := Int.emod_lt_of_pos r (by omega : 0 < 2 * p)
  have h4 := Int.ediv_nonneg h0 (by omega : 0 ≤ 2 * p)
  generalize r / (2 * p) = q at *
  have e1 : 2 * p * q = 2 * (p * q) := Int.mul_assoc _ _ _
  have e2 : q * (2 * p) = 2 * (p * q) := by rw [Int.mul_comm, e1]
  have e3 := Int.mul_nonneg (by omega : 0 ≤ p) h4
  rw [e2]
  rw [e1] at h1
  refine ⟨by omega, by omega, fun c => ?_, fun c => ?_⟩
  · have : r / p = 2 * q + 1 := by
      rw [← fl_pos hp]; refine fl_unique_pos hp ?_ ?_
      · rw [Int.mul_add, ← Int.mul_assoc, Int.mul_comm p 2, Int.mul_assoc]; omega
      · rw [Int.mul_add, Int.mul_add, ← Int.mul_assoc, Int.mul_comm p 2, Int.mul_assoc]; omega
    rw [this, Int.add_mul, Int.mul_assoc, Int.mul_comm q p]; omega
  · have : r / p = 2 * q := by
      rw [← fl_pos hp]; refine fl_unique_pos hp ?_ ?_
      · rw [← Int.mul_assoc, Int.mul_comm p 2, Int.mul_assoc]; omega
      · rw [Int.mul_add, ← Int.mul_assoc, Int.mul_comm p 2, Int.mul_assoc]; omega
    rw [this, Int.mul_assoc, Int.mul_comm q p]

end Go.Proofs.Ytcaolnhlihkppaa
