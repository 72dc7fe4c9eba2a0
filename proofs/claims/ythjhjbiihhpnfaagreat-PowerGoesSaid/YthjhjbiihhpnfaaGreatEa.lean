/- The document's disk in memory; its Name, At, look, Read, Synced. -/
import Derived.Test.YthjhjbiihhpnfaaGreatDx
namespace Go.Proofs.YthjhjbiihhpnfaaGreat
open Go.RowKit Go.Shelf
set_option linter.unusedVariables false
set_option linter.unusedSimpArgs false
set_option maxRecDepth 100000

/-- A file's three cells; a list's. -/
def fc (e : Ent) : List Value := [.string (str e.nm), .string (str e.bs), .int .i64 (e.su : Int)]
def fcs : List Ent → List Value
  | [] => []
  | e :: r => fc e ++ fcs r
theorem fcs_len : ∀ E : List Ent, (fcs E).length = E.length * 3
  | [] => rfl
  | e :: r => by simp [fcs, fc, fcs_len r]; omega
theorem fcs_app : ∀ A B : List Ent, fcs (A ++ B) = fcs A ++ fcs B
  | [], B => rfl
  | e :: r, B => by simp [fcs, fcs_app r B]
theorem fcs_at : ∀ (E : List Ent) (k : Nat) (h : k < E.length) (i : Nat), i < 3 → (fcs E)[k * 3 + i]? = (fc (E[k]'h))[i]?
  | e :: r, 0, _, i, hi => by simp [fcs, List.getElem?_append_left (show i < (fc e).length from hi)]
  | e :: r, k + 1, h, i, hi => by
    have := fcs_at r k (by simpa using h) i hi
    simp only [fcs, List.getElem_cons_succ]
    rw [← this, List.getElem?_append_right (by simp [fc]; omega)]
    congr 1
    simp [fc]; omega
/-- A row of files of one's own. -/
def FRow (B : Nat) (w : World) (v : Value) (E : List Ent) : Prop := w.ownsRow B 96 3 v E.length (fcs E)
theorem FRow.tu {S : Nat → Prop} {B : Nat} {w w' : World} {v : Value} {E : List Ent} (h : FRow B w v E) (k : Tu S w w') (hs : ∀ x, v.ownBlock = some x → ¬ S x) : FRow B w' v E := row_tu h k hs
theorem FRow.form {B : Nat} {w : World} {v : Value} {E : List Ent} (h : FRow B w v E) : ∃ ao cap, v = .slice ao E.length cap := by
  rcases h.2 with ⟨rfl, h0⟩ | ⟨g, cap, cur, rfl, _⟩
  · rw [h0]; exact ⟨_, _, rfl⟩
  · exact ⟨_, _, rfl⟩
/-- The file at a place, to be read. -/
theorem FRow.at {B : Nat} {w : World} {ao : Option Addr} {cap : Nat} {E : List Ent} (h : FRow B w (.slice ao E.length cap) E) {k : Nat} (hk : k < E.length) :
    ∃ g, ao = some ⟨g, 0, none⟩ ∧ w.cell? ⟨g, k * 3, none⟩ = some (.string (str (E[k]'hk).nm)) ∧ w.cell? ⟨g, k * 3 + 1, none⟩ = some (.string (str (E[k]'hk).bs)) ∧ w.cell? ⟨g, k * 3 + 2, none⟩ = some (.int .i64 ((E[k]'hk).su : Int)) := by
  rcases h.2 with ⟨he, h0⟩ | ⟨g, cap', cur, he, _⟩
  · omega
  · injection he with e1 e2 e3
    subst e1 e3
    have c : ∀ i, i < 3 → ∀ v, (fc (E[k]'hk))[i]? = some v → w.cell? ⟨g, k * 3 + i, none⟩ = some v := fun i hi v hv => by
      have := World.ownsRow.cells (g := g) h rfl (k * 3 + i) v (by rw [fcs_at E k hk i hi]; exact hv)
      rw [show (⟨g, 0, none⟩ : Addr).add (k * 3 + i) = ⟨g, k * 3 + i, none⟩ from by rw [Go.WideShapes.add_plain, Nat.zero_add]] at this
      exact this
    exact ⟨g, rfl, c 0 (by omega) _ rfl, c 1 (by omega) _ rfl, c 2 (by omega) _ rfl⟩
/-- The document's disk: in blocks of S. -/
structure RkC (S : Nat → Prop) (w : World) (g q : Nat) (ao : Option Addr) (cap : Nat) (E : List Ent) : Prop where
  blk : Cells w g 70 #[.int .i64 (q : Int), .slice ao E.length cap]
  row : FRow 0 w (.slice ao E.length cap) E
  sg : S g
  sr : ∀ x, (Value.slice ao E.length cap).ownBlock = some x → S x
  good : Good q E
def RkS (S : Nat → Prop) (w : World) (v : Value) (q : Nat) (E : List Ent) : Prop := ∃ g ao cap, v = .pointer (some ⟨g, 0, none⟩) ∧ RkC S w g q ao cap E
section
variable {S S' : Nat → Prop} {w w' : World} {v : Value} {g q cap : Nat} {ao : Option Addr} {E : List Ent}
theorem RkC.tu (h : RkC S w g q ao cap E) (k : Tu S' w w') (hs : ∀ x, x < w.heap.size → S x → ¬ S' x) : RkC S w' g q ao cap E :=
  ⟨h.blk.tu k (hs _ h.blk.lt h.sg), h.row.tu k (fun x hx => hs x (h.row.lt x hx).2 (h.sr x hx)), h.sg, h.sr, h.good⟩
theorem RkC.new (h : RkC S w g q ao cap E) (k : Below w.heap.size w w') : RkC S w' g q ao cap E := h.tu (S' := fun _ => False) (.new k) fun _ _ _ h => h
theorem RkS.tu (h : RkS S w v q E) (k : Tu S' w w') (hs : ∀ x, x < w.heap.size → S x → ¬ S' x) : RkS S w' v q E := by
  obtain ⟨g, ao, cap, rfl, h⟩ := h; exact ⟨g, ao, cap, rfl, h.tu k hs⟩
theorem RkS.new (h : RkS S w v q E) (k : Below w.heap.size w w') : RkS S w' v q E := h.tu (S' := fun _ => False) (.new k) fun _ _ _ h => h
theorem RkS.mono (h : RkS S w v q E) (hs : ∀ x, x < w.heap.size → S x → S' x) : RkS S' w v q E := by
  obtain ⟨g, ao, cap, rfl, h⟩ := h
  exact ⟨g, ao, cap, rfl, h.blk, h.row, hs _ h.blk.lt h.sg, fun x hx => hs x (h.row.lt x hx).2 (h.sr x hx), h.good⟩
theorem RkS.ptr (h : RkS S w v q E) : ∃ g, v = .pointer (some ⟨g, 0, none⟩) := by obtain ⟨g, ao, cap, rfl, h⟩ := h; exact ⟨g, rfl⟩
theorem RkC.c0 (h : RkC S w g q ao cap E) : w.cell? ⟨g, 0, none⟩ = some (.int .i64 (q : Int)) := by rw [h.blk.cell]; rfl
theorem RkC.c1 (h : RkC S w g q ao cap E) : w.cell? ⟨g, 1, none⟩ = some (.slice ao E.length cap) := by rw [h.blk.cell]; rfl
end
theorem str_tl2 (a : List UInt8) : (str a).toList = a := by rw [ByteArray.toList_eq]; simp [str]
theorem str_no2 {a b : List UInt8} (h : a ≠ b) : ((str a).toList == (str b).toList) = false := by rw [str_tl2, str_tl2]; simpa using h
theorem str_yes2 (l : List UInt8) : ((str l).toList == (str l).toList) = true := beq_self_eq_true _
/-- Where a name stands. -/
def AtP (E : List Ent) (n : List UInt8) (w : World) (R : Ending) (w' : World) : Prop :=
  w = w' ∧ ((fnd n E = none ∧ R = .returned (.int .i64 (-1))) ∨ ∃ (j : Nat) (h : j < E.length), (E[j]'h).nm = n ∧ (∀ i (hi : i < j), (E[i]'(by omega)).nm ≠ n) ∧ fnd n E = some (E[j]'h) ∧ R = .returned (.int .i64 (j : Int)))
theorem fnd_none {E : List Ent} {n : List UInt8} (h : ∀ j (hj : j < E.length), (E[j]'hj).nm ≠ n) : fnd n E = none := by
  refine List.find?_eq_none.2 fun x hx => ?_
  obtain ⟨j, hj, rfl⟩ := List.getElem_of_mem hx
  simpa using h j hj
theorem fnd_first : ∀ {E : List Ent} {n : List UInt8} {j : Nat} (hj : j < E.length), (E[j]'hj).nm = n → (∀ i (hi : i < j), (E[i]'(by omega)).nm ≠ n) → fnd n E = some (E[j]'hj)
  | e :: r, n, 0, _, h, _ => by
    have : e.nm = n := h
    simp [fndK, this]
  | e :: r, n, j + 1, hj, h, hn => by
    have h0 : e.nm ≠ n := hn 0 (by omega)
    have ih := fnd_first (E := r) (n := n) (j := j) (by simpa using hj) h (fun i hi => hn (i + 1) (by omega))
    simp only [fndK] at ih ⊢
    rw [List.find?_cons, beq_eq_false_iff_ne.2 h0]
    exact ih
theorem at_c {S : Nat → Prop} {w : World} {g q cap : Nat} {ao : Option Addr} {E : List Ent} (h : RkC S w g q ao cap E) (n : List UInt8) :
    Calls Tryz.prog 75 #[.pointer (some ⟨g, 0, none⟩), .string (str n)] w (AtP E n w) := by
  have c1 := h.c1
  have hl := h.good.len
  have HR := Lib.hid h.row
  clear h
  go_enter Tryz.func75, Tryz.ntmps75
  go_wp2
  go_loop [5] (fun i => ∃ k : Nat, k ≤ E.length ∧ i = .int .i64 k ∧ Hid (∀ j (hj : j < E.length), j < k → (E[j]'hj).nm ≠ n)) (fun i => E.length - (intOf i).toNat)
  case atStart => exact ⟨0, Nat.zero_le _, rfl, fun j _ h => by omega⟩
  case round =>
    obtain ⟨k, hk, rfl, HN⟩ := hrel
    by_cases hlt : k < E.length
    · have i2 : (k : Int) < (E.length : Int) := by omega
      obtain ⟨gr, rfl, d0, d1, d2⟩ := HR.out.at hlt
      by_cases he : (E[k]'hlt).nm = n
      · have HF := Lib.hid (fnd_first hlt he (fun i hi => HN.out i (by omega) hi))
        have HE := Lib.hid he
        rw [he] at d0
        clear he d1 d2
        have q1 := str_yes2 n
        go_wp2
        go_ret
        exact ⟨rfl, .inr ⟨k, hlt, HE.out, fun i hi => HN.out i (by omega) hi, HF.out, rfl⟩⟩
      · have q1 := str_no2 he
        have HM : Hid (∀ j (hj : j < E.length), j < k + 1 → (E[j]'hj).nm ≠ n) := fun j hj hjk => by
          by_cases hjk2 : j < k
          · exact HN.out j hj hjk2
          · obtain rfl : j = k := by omega
            exact he
        clear he d1 d2
        generalize (E[k]'hlt).nm = nk at *
        go_wp2
        go_round
        case rel => exact ⟨k + 1, by omega, by go_num, HM.out⟩
        case measure => simp [intOf]; omega
    · have hx : k = E.length := by omega
      have i2 : ¬ (k : Int) < (E.length : Int) := by omega
      have HX := Lib.hid hx
      clear hx hlt hk
      go_wp2
      go_ret
      exact ⟨rfl, .inl ⟨fnd_none fun j hj => HN.out j hj (by rw [HX.out]; exact hj), rfl⟩⟩
/-- The document's Name. -/
theorem rname_c (n : List UInt8) (w : World) (hl : n.length ≤ maxLen) : Calls Tryz.prog 74 #[.string (str n)] w fun E w' => E = .returned (.bool (isNm n)) ∧ w = w' := by
  simp only [maxLen] at hl
  have hs := str_size n
  go_enter Tryz.func74, Tryz.ntmps74
  go_wp2
  go_loop [3] (fun i => ∃ k : Nat, k ≤ n.length ∧ i = .int .i64 k ∧ Hid ((n.take k).all nmc = true)) (fun i => n.length - (intOf i).toNat)
  case atStart => exact ⟨0, Nat.zero_le _, rfl, (by show _ = _; simp)⟩
  case round =>
    obtain ⟨k, hk, rfl, HOK⟩ := hrel
    by_cases hlt : k < n.length
    · have hg : ∀ h, (str n)[k]'h = n[k]'hlt := fun h => rfl
      have i2 : (k : Int) < (n.length : Int) := by omega
      have HN := Lib.hid (nms_step hlt)
      have HX := Lib.hid (nms_no hlt)
      have hq : Hid (nmc (n[k]'hlt) = ((97 ≤ (n[k]'hlt).toNat && (n[k]'hlt).toNat ≤ 122) || (48 ≤ (n[k]'hlt).toNat && (n[k]'hlt).toNat ≤ 57) || (n[k]'hlt).toNat == 46 || (n[k]'hlt).toNat == 45)) := rfl
      generalize nmc (n[k]'hlt) = r at *
      generalize hm : (n[k]'hlt).toNat = m at *
      have hm2 : ∀ h, ((str n)[k]'h).toNat = m := fun h => hm
      have key : (r = true ∧ ((97 ≤ m ∧ m ≤ 122) ∨ (m < 97 ∧ 48 ≤ m ∧ m ≤ 57) ∨ m = 46 ∨ m = 45)) ∨ (r = false ∧ ((122 < m) ∨ (m < 97 ∧ 57 < m) ∨ (m < 48 ∧ m ≠ 46 ∧ m ≠ 45))) := by
        rw [hq.out]
        simp only [Bool.or_eq_true, Bool.and_eq_true, decide_eq_true_eq, beq_iff_eq, Bool.or_eq_false_iff, Bool.and_eq_false_iff, decide_eq_false_iff_not, beq_eq_false_iff_ne]
        omega
      clear hq hm hg
      rcases key with ⟨rfl, h1⟩ | ⟨rfl, h1⟩
      · have HM : Hid ((n.take (k + 1)).all nmc = true) := by show _ = _; rw [HN.out, HOK.out]; rfl
        rcases h1 with ⟨h1, h2⟩ | ⟨h1, h2, h3⟩ | rfl | rfl
        · go_wp2
          go_round
          case rel => exact ⟨k + 1, by omega, by go_num, HM.out⟩
          case measure => simp [intOf]; omega
        · go_wp2
          go_round
          case rel => exact ⟨k + 1, by omega, by go_num, HM.out⟩
          case measure => simp [intOf]; omega
        · go_wp2
          go_round
          case rel => exact ⟨k + 1, by omega, by go_num, HM.out⟩
          case measure => simp [intOf]; omega
        · go_wp2
          go_round
          case rel => exact ⟨k + 1, by omega, by go_num, HM.out⟩
          case measure => simp [intOf]; omega
      · have HM : Hid (isNm n = false) := by show _ = _; unfold isNm; rw [HX.out rfl]; simp
        rcases h1 with h1 | ⟨h1, h2⟩ | ⟨h1, h2, h3⟩
        all_goals (
          have i5 : ((m : Int) != 46) = true := bne_iff_ne.2 (by omega)
          have i6 : ((m : Int) != 45) = true := bne_iff_ne.2 (by omega)
          go_wp2
          go_ret
          exact ⟨by rw [HM.out]; rfl, rfl⟩)
    · have hx : k = n.length := by omega
      have i2 : ¬ (k : Int) < (n.length : Int) := by omega
      have hal : n.all nmc = true := by have := HOK.out; rw [hx, List.take_length] at this; exact this
      have HM : Hid (isNm n = (decide (1 ≤ n.length) && decide (n.length ≤ 32))) := by show _ = _; unfold isNm; rw [hal]; simp
      clear hx hal hlt
      by_cases h1 : 1 ≤ n.length
      · by_cases h2 : n.length ≤ 32
        · go_wp2
          go_ret
          exact ⟨by rw [HM.out]; first | (simp [h1, h2]; done) | (simp [h1, h2]; omega), rfl⟩
        · go_wp2
          go_ret
          exact ⟨by rw [HM.out]; first | (simp [h1, h2]; done) | (simp [h1, h2]; omega), rfl⟩
      · go_wp2
        go_ret
        exact ⟨by rw [HM.out]; simp [h1], rfl⟩
end Go.Proofs.YthjhjbiihhpnfaaGreat
