/- Texts of elder layers, one behind the other. -/
import Derived.Test.YtacgmadgkmcmoaaGreatDoorDz
import Derived.Deep.AppendLies
import Derived.WalkSmall
import Derived.Maps.AppendAt
/- The document's disk in memory; its Name, At, look, Read, Synced. -/
namespace Go.Proofs.YtacgmadgkmcmoaaGreatDoor
open Go.RowKit Go.Shelf
set_option linter.unusedVariables false
set_option linter.unusedSimpArgs false
set_option maxRecDepth 100000

/-- A file's three cells; a list's. -/
def fc (e : Ent) : List Value := [.string (str e.nm), .string (str e.bs), .int .i64 (e.su : Int)]
def fcs : List Ent → List Value
  | [] => []
  | e :: r => fc e ++ fcs r
theorem fcs_len : ∀ E : List Ent, (fcs E).length = E.length * 3
  | [] => rfl
  | e :: r => by simp [fcs, fc, fcs_len r]; omega
theorem fcs_app : ∀ A B : List Ent, fcs (A ++ B) = fcs A ++ fcs B
  | [], B => rfl
  | e :: r, B => by simp [fcs, fcs_app r B]
theorem fcs_at : ∀ (E : List Ent) (k : Nat) (h : k < E.length) (i : Nat), i < 3 → (fcs E)[k * 3 + i]? = (fc (E[k]'h))[i]?
  | e :: r, 0, _, i, hi => by simp [fcs, List.getElem?_append_left (show i < (fc e).length from hi)]
  | e :: r, k + 1, h, i, hi => by
    have := fcs_at r k (by simpa using h) i hi
    simp only [fcs, List.getElem_cons_succ]
    rw [← this, List.getElem?_append_right (by simp [fc]; omega)]
    congr 1
    simp [fc]; omega
/-- A row of files of one's own. -/
def FRow (B : Nat) (w : World) (v : Value) (E : List Ent) : Prop := w.ownsRow B 123 3 v E.length (fcs E)
theorem FRow.tu {S : Nat → Prop} {B : Nat} {w w' : World} {v : Value} {E : List Ent} (h : FRow B w v E) (k : Tu S w w') (hs : ∀ x, v.ownBlock = some x → ¬ S x) : FRow B w' v E := row_tu h k hs
theorem FRow.form {B : Nat} {w : World} {v : Value} {E : List Ent} (h : FRow B w v E) : ∃ ao cap, v = .slice ao E.length cap := by
  rcases h.2 with ⟨rfl, h0⟩ | ⟨g, cap, cur, rfl, _⟩
  · rw [h0]; exact ⟨_, _, rfl⟩
  · exact ⟨_, _, rfl⟩
/-- The file at a place, to be read. -/
theorem FRow.at {B : Nat} {w : World} {ao : Option Addr} {cap : Nat} {E : List Ent} (h : FRow B w (.slice ao E.length cap) E) {k : Nat} (hk : k < E.length) :
    ∃ g, ao = some ⟨g, 0, none⟩ ∧ w.cell? ⟨g, k * 3, none⟩ = some (.string (str (E[k]'hk).nm)) ∧ w.cell? ⟨g, k * 3 + 1, none⟩ = some (.string (str (E[k]'hk).bs)) ∧ w.cell? ⟨g, k * 3 + 2, none⟩ = some (.int .i64 ((E[k]'hk).su : Int)) := by
  rcases h.2 with ⟨he, h0⟩ | ⟨g, cap', cur, he, _⟩
  · omega
  · injection he with e1 e2 e3
    subst e1 e3
    have c : ∀ i, i < 3 → ∀ v, (fc (E[k]'hk))[i]? = some v → w.cell? ⟨g, k * 3 + i, none⟩ = some v := fun i hi v hv => by
      have := World.ownsRow.cells (g := g) h rfl (k * 3 + i) v (by rw [fcs_at E k hk i hi]; exact hv)
      rw [show (⟨g, 0, none⟩ : Addr).add (k * 3 + i) = ⟨g, k * 3 + i, none⟩ from by rw [Go.WideShapes.add_plain, Nat.zero_add]] at this
      exact this
    exact ⟨g, rfl, c 0 (by omega) _ rfl, c 1 (by omega) _ rfl, c 2 (by omega) _ rfl⟩
/-- The document's disk: in blocks of S. -/
structure RkC (S : Nat → Prop) (w : World) (g q : Nat) (ao : Option Addr) (cap : Nat) (E : List Ent) : Prop where
  blk : Cells w g 121 #[.int .i64 (q : Int), .slice ao E.length cap]
  row : FRow 0 w (.slice ao E.length cap) E
  sg : S g
  sr : ∀ x, (Value.slice ao E.length cap).ownBlock = some x → S x
  good : DGood q E
def RkS (S : Nat → Prop) (w : World) (v : Value) (q : Nat) (E : List Ent) : Prop := ∃ g ao cap, v = .pointer (some ⟨g, 0, none⟩) ∧ RkC S w g q ao cap E
section
variable {S S' : Nat → Prop} {w w' : World} {v : Value} {g q cap : Nat} {ao : Option Addr} {E : List Ent}
theorem RkC.tu (h : RkC S w g q ao cap E) (k : Tu S' w w') (hs : ∀ x, x < w.heap.size → S x → ¬ S' x) : RkC S w' g q ao cap E :=
  ⟨h.blk.tu k (hs _ h.blk.lt h.sg), h.row.tu k (fun x hx => hs x (h.row.lt x hx).2 (h.sr x hx)), h.sg, h.sr, h.good⟩
theorem RkC.new (h : RkC S w g q ao cap E) (k : Below w.heap.size w w') : RkC S w' g q ao cap E := h.tu (S' := fun _ => False) (.new k) fun _ _ _ h => h
theorem RkS.tu (h : RkS S w v q E) (k : Tu S' w w') (hs : ∀ x, x < w.heap.size → S x → ¬ S' x) : RkS S w' v q E := by
  obtain ⟨g, ao, cap, rfl, h⟩ := h; exact ⟨g, ao, cap, rfl, h.tu k hs⟩
theorem RkS.new (h : RkS S w v q E) (k : Below w.heap.size w w') : RkS S w' v q E := h.tu (S' := fun _ => False) (.new k) fun _ _ _ h => h
theorem RkS.mono (h : RkS S w v q E) (hs : ∀ x, x < w.heap.size → S x → S' x) : RkS S' w v q E := by
  obtain ⟨g, ao, cap, rfl, h⟩ := h
  exact ⟨g, ao, cap, rfl, h.blk, h.row, hs _ h.blk.lt h.sg, fun x hx => hs x (h.row.lt x hx).2 (h.sr x hx), h.good⟩
theorem RkS.ptr (h : RkS S w v q E) : ∃ g, v = .pointer (some ⟨g, 0, none⟩) := by obtain ⟨g, ao, cap, rfl, h⟩ := h; exact ⟨g, rfl⟩
theorem RkC.c0 (h : RkC S w g q ao cap E) : w.cell? ⟨g, 0, none⟩ = some (.int .i64 (q : Int)) := by rw [h.blk.cell]; rfl
theorem RkC.c1 (h : RkC S w g q ao cap E) : w.cell? ⟨g, 1, none⟩ = some (.slice ao E.length cap) := by rw [h.blk.cell]; rfl
end
theorem str_tl2 (a : List UInt8) : (str a).toList = a := by rw [ByteArray.toList_eq]; simp [str]
theorem str_no2 {a b : List UInt8} (h : a ≠ b) : ((str a).toList == (str b).toList) = false := by rw [str_tl2, str_tl2]; simpa using h
theorem str_yes2 (l : List UInt8) : ((str l).toList == (str l).toList) = true := beq_self_eq_true _
/-- Where a name stands. -/
def AtP (E : List Ent) (n : List UInt8) (w : World) (R : Ending) (w' : World) : Prop :=
  w = w' ∧ ((fnd n E = none ∧ R = .returned (.int .i64 (-1))) ∨ ∃ (j : Nat) (h : j < E.length), (E[j]'h).nm = n ∧ (∀ i (hi : i < j), (E[i]'(by omega)).nm ≠ n) ∧ fnd n E = some (E[j]'h) ∧ R = .returned (.int .i64 (j : Int)))
theorem fnd_none {E : List Ent} {n : List UInt8} (h : ∀ j (hj : j < E.length), (E[j]'hj).nm ≠ n) : fnd n E = none := by
  refine List.find?_eq_none.2 fun x hx => ?_
  obtain ⟨j, hj, rfl⟩ := List.getElem_of_mem hx
  simpa using h j hj
theorem fnd_first : ∀ {E : List Ent} {n : List UInt8} {j : Nat} (hj : j < E.length), (E[j]'hj).nm = n → (∀ i (hi : i < j), (E[i]'(by omega)).nm ≠ n) → fnd n E = some (E[j]'hj)
  | e :: r, n, 0, _, h, _ => by
    have : e.nm = n := h
    simp [fndK, this]
  | e :: r, n, j + 1, hj, h, hn => by
    have h0 : e.nm ≠ n := hn 0 (by omega)
    have ih := fnd_first (E := r) (n := n) (j := j) (by simpa using hj) h (fun i hi => hn (i + 1) (by omega))
    simp only [fndK] at ih ⊢
    rw [List.find?_cons, beq_eq_false_iff_ne.2 h0]
    exact ih
theorem at_c {S : Nat → Prop} {w : World} {g q cap : Nat} {ao : Option Addr} {E : List Ent} (h : RkC S w g q ao cap E) (n : List UInt8) :
    Calls Tryz.prog 87 #[.pointer (some ⟨g, 0, none⟩), .string (str n)] w (AtP E n w) := by
  have c1 := h.c1
  have hl := h.good.len
  have HR := Lib.hid h.row
  clear h
  go_enter Tryz.func87, Tryz.ntmps87
  go_wp2
  go_loop [5] (fun i => ∃ k : Nat, k ≤ E.length ∧ i = .int .i64 k ∧ Hid (∀ j (hj : j < E.length), j < k → (E[j]'hj).nm ≠ n)) (fun i => E.length - (intOf i).toNat)
  case atStart => exact ⟨0, Nat.zero_le _, rfl, fun j _ h => by omega⟩
  case round =>
    obtain ⟨k, hk, rfl, HN⟩ := hrel
    by_cases hlt : k < E.length
    · have i2 : (k : Int) < (E.length : Int) := by omega
      obtain ⟨gr, rfl, d0, d1, d2⟩ := HR.out.at hlt
      by_cases he : (E[k]'hlt).nm = n
      · have HF := Lib.hid (fnd_first hlt he (fun i hi => HN.out i (by omega) hi))
        have HE := Lib.hid he
        rw [he] at d0
        clear he d1 d2
        have q1 := str_yes2 n
        go_wp2
        go_ret
        exact ⟨rfl, .inr ⟨k, hlt, HE.out, fun i hi => HN.out i (by omega) hi, HF.out, rfl⟩⟩
      · have q1 := str_no2 he
        have HM : Hid (∀ j (hj : j < E.length), j < k + 1 → (E[j]'hj).nm ≠ n) := fun j hj hjk => by
          by_cases hjk2 : j < k
          · exact HN.out j hj hjk2
          · obtain rfl : j = k := by omega
            exact he
        clear he d1 d2
        generalize (E[k]'hlt).nm = nk at *
        go_wp2
        go_round
        case rel => exact ⟨k + 1, by omega, by go_num, HM.out⟩
        case measure => simp [intOf]; omega
    · have hx : k = E.length := by omega
      have i2 : ¬ (k : Int) < (E.length : Int) := by omega
      have HX := Lib.hid hx
      clear hx hlt hk
      go_wp2
      go_ret
      exact ⟨rfl, .inl ⟨fnd_none fun j hj => HN.out j hj (by rw [HX.out]; exact hj), rfl⟩⟩
/-- The document's Name. -/
theorem rname_c (n : List UInt8) (w : World) (hl : n.length ≤ maxLen) : Calls Tryz.prog 86 #[.string (str n)] w fun E w' => E = .returned (.bool (isNm n)) ∧ w = w' := by
  simp only [maxLen] at hl
  have hs := str_size n
  go_enter Tryz.func86, Tryz.ntmps86
  go_wp2
  go_loop [3] (fun i => ∃ k : Nat, k ≤ n.length ∧ i = .int .i64 k ∧ Hid ((n.take k).all nmc = true)) (fun i => n.length - (intOf i).toNat)
  case atStart => exact ⟨0, Nat.zero_le _, rfl, (by show _ = _; simp)⟩
  case round =>
    obtain ⟨k, hk, rfl, HOK⟩ := hrel
    by_cases hlt : k < n.length
    · have hg : ∀ h, (str n)[k]'h = n[k]'hlt := fun h => rfl
      have i2 : (k : Int) < (n.length : Int) := by omega
      have HN := Lib.hid (nms_step hlt)
      have HX := Lib.hid (nms_no hlt)
      have hq : Hid (nmc (n[k]'hlt) = ((97 ≤ (n[k]'hlt).toNat && (n[k]'hlt).toNat ≤ 122) || (48 ≤ (n[k]'hlt).toNat && (n[k]'hlt).toNat ≤ 57) || (n[k]'hlt).toNat == 46 || (n[k]'hlt).toNat == 45)) := rfl
      generalize nmc (n[k]'hlt) = r at *
      generalize hm : (n[k]'hlt).toNat = m at *
      have hm2 : ∀ h, ((str n)[k]'h).toNat = m := fun h => hm
      have key : (r = true ∧ ((97 ≤ m ∧ m ≤ 122) ∨ (m < 97 ∧ 48 ≤ m ∧ m ≤ 57) ∨ m = 46 ∨ m = 45)) ∨ (r = false ∧ ((122 < m) ∨ (m < 97 ∧ 57 < m) ∨ (m < 48 ∧ m ≠ 46 ∧ m ≠ 45))) := by
        rw [hq.out]
        simp only [Bool.or_eq_true, Bool.and_eq_true, decide_eq_true_eq, beq_iff_eq, Bool.or_eq_false_iff, Bool.and_eq_false_iff, decide_eq_false_iff_not, beq_eq_false_iff_ne]
        omega
      clear hq hm hg
      rcases key with ⟨rfl, h1⟩ | ⟨rfl, h1⟩
      · have HM : Hid ((n.take (k + 1)).all nmc = true) := by show _ = _; rw [HN.out, HOK.out]; rfl
        rcases h1 with ⟨h1, h2⟩ | ⟨h1, h2, h3⟩ | rfl | rfl
        · go_wp2
          go_round
          case rel => exact ⟨k + 1, by omega, by go_num, HM.out⟩
          case measure => simp [intOf]; omega
        · go_wp2
          go_round
          case rel => exact ⟨k + 1, by omega, by go_num, HM.out⟩
          case measure => simp [intOf]; omega
        · go_wp2
          go_round
          case rel => exact ⟨k + 1, by omega, by go_num, HM.out⟩
          case measure => simp [intOf]; omega
        · go_wp2
          go_round
          case rel => exact ⟨k + 1, by omega, by go_num, HM.out⟩
          case measure => simp [intOf]; omega
      · have HM : Hid (isNm n = false) := by show _ = _; unfold isNm; rw [HX.out rfl]; simp
        rcases h1 with h1 | ⟨h1, h2⟩ | ⟨h1, h2, h3⟩
        all_goals (
          have i5 : ((m : Int) != 46) = true := bne_iff_ne.2 (by omega)
          have i6 : ((m : Int) != 45) = true := bne_iff_ne.2 (by omega)
          go_wp2
          go_ret
          exact ⟨by rw [HM.out]; rfl, rfl⟩)
    · have hx : k = n.length := by omega
      have i2 : ¬ (k : Int) < (n.length : Int) := by omega
      have hal : n.all nmc = true := by have := HOK.out; rw [hx, List.take_length] at this; exact this
      have HM : Hid (isNm n = (decide (1 ≤ n.length) && decide (n.length ≤ 32))) := by show _ = _; unfold isNm; rw [hal]; simp
      clear hx hal hlt
      by_cases h1 : 1 ≤ n.length
      · by_cases h2 : n.length ≤ 32
        · go_wp2
          go_ret
          exact ⟨by rw [HM.out]; first | (simp [h1, h2]; done) | (simp [h1, h2]; omega), rfl⟩
        · go_wp2
          go_ret
          exact ⟨by rw [HM.out]; first | (simp [h1, h2]; done) | (simp [h1, h2]; omega), rfl⟩
      · go_wp2
        go_ret
        exact ⟨by rw [HM.out]; simp [h1], rfl⟩
end Go.Proofs.YtacgmadgkmcmoaaGreatDoor
/- The document's disk: look, Read, Synced, Used, List, Same. -/
namespace Go.Proofs.YtacgmadgkmcmoaaGreatDoor
open Go.RowKit Go.Shelf Go.Deep
set_option linter.unusedVariables false
set_option linter.unusedSimpArgs false
set_option maxRecDepth 100000

def LookP (E : List Ent) (n : List UInt8) (w : World) (R : Ending) (w' : World) : Prop :=
  w = w' ∧ ((isNm n = false ∧ R = .returned (.tuple #[.int .i64 0, .int .i64 2])) ∨ (isNm n = true ∧ fnd n E = none ∧ R = .returned (.tuple #[.int .i64 0, .int .i64 5])) ∨
    ∃ (j : Nat) (h : j < E.length), isNm n = true ∧ (E[j]'h).nm = n ∧ fnd n E = some (E[j]'h) ∧ R = .returned (.tuple #[.int .i64 (j : Int), .int .i64 0]))
section
variable {S : Nat → Prop} {w : World} {g q cap : Nat} {ao : Option Addr} {E : List Ent}
theorem look2_c (h : RkC S w g q ao cap E) (n : List UInt8) (hn : n.length ≤ maxLen) :
    Calls Tryz.prog 67 #[.pointer (some ⟨g, 0, none⟩), .string (str n)] w (LookP E n w) := by
  have hr := rname_c n w hn
  have ha := at_c h n
  have HA := Lib.hid ha
  clear h ha
  cases hq : isNm n with
  | false =>
    rw [hq] at hr
    have HQ := Lib.hid hq
    clear hq
    go_enter Tryz.func67, Tryz.ntmps67
    go_wp2_with fail
    refine hr.mono ?_
    rintro R w1 ⟨rfl, rfl⟩
    go_wp2
    go_ret2
    exact ⟨rfl, .inl ⟨HQ.out, rfl⟩⟩
  | true =>
    rw [hq] at hr
    have HQ := Lib.hid hq
    clear hq
    go_enter Tryz.func67, Tryz.ntmps67
    go_wp2_with fail
    refine hr.mono ?_
    rintro R w1 ⟨rfl, rfl⟩
    go_wp2_with fail
    refine HA.out.mono ?_
    rintro R w1 ⟨rfl, ⟨hf, rfl⟩ | ⟨j, hj, hjn, _, hf, rfl⟩⟩
    · have HF := Lib.hid hf
      clear hf
      go_wp2
      go_ret2
      exact ⟨rfl, .inr (.inl ⟨HQ.out, HF.out, rfl⟩)⟩
    · have HF := Lib.hid hf
      have HJ := Lib.hid hjn
      have HL := Lib.hid hj
      have i1 : ¬ (j : Int) < 0 := by omega
      clear hf hjn
      go_wp2
      go_ret2
      exact ⟨rfl, .inr (.inr ⟨j, HL.out, HQ.out, HJ.out, HF.out, rfl⟩)⟩
theorem rread_c (h : RkC S w g q ao cap E) (n : List UInt8) (hn : n.length ≤ maxLen) :
    Calls Tryz.prog 21 #[.pointer (some ⟨g, 0, none⟩), .string (str n)] w fun R w' => R = .returned (.tuple #[.string (str (rd E n)), .int .i64 (eFind E n)]) ∧ w = w' := by
  have hl := look2_c h n hn
  have c1 := h.c1
  have HR := Lib.hid h.row
  have HE : Hid (rd E n = if isNm n then (match fnd n E with | some f => f.bs | none => []) else []) := rfl
  have HF : Hid (eFind E n = if isNm n then (match fnd n E with | some _ => 0 | none => 5) else 2) := rfl
  clear h
  go_enter Tryz.func21, Tryz.ntmps21
  go_wp2_with fail
  refine hl.mono ?_
  rintro R w1 ⟨rfl, ⟨h1, rfl⟩ | ⟨h1, h2, rfl⟩ | ⟨j, hj, h1, h2, h3, rfl⟩⟩
  · have H1 := Lib.hid h1
    clear h1
    go_wp2
    go_ret2
    exact ⟨by rw [HE.out, HF.out, H1.out]; rfl, rfl⟩
  · have H1 := Lib.hid h1
    have H2 := Lib.hid h2
    clear h1 h2
    go_wp2
    go_ret2
    exact ⟨by rw [HE.out, HF.out, H1.out, H2.out]; rfl, rfl⟩
  · have H1 := Lib.hid h1
    have H3 := Lib.hid h3
    obtain ⟨gr, rfl, d0, d1, d2⟩ := HR.out.at hj
    have i2 : (j : Int) < (E.length : Int) := by omega
    clear h1 h2 h3 d0 d2
    go_wp2
    go_ret2
    exact ⟨by rw [HE.out, HF.out, H1.out, H3.out]; rfl, rfl⟩
theorem used_take {E : List Ent} {k : Nat} (h : k < E.length) : used (E.take (k + 1)) = used (E.take k) + (E[k]'h).bs.length := by
  rw [List.take_succ_eq_append_getElem h, used_app, used_cons, used_nil]; omega
theorem used_take_le (E : List Ent) (k : Nat) : used (E.take k) ≤ used E := by
  have := used_app (E.take k) (E.drop k)
  rw [List.take_append_drop] at this
  omega
theorem rused_c (h : RkC S w g q ao cap E) : Calls Tryz.prog 89 #[.pointer (some ⟨g, 0, none⟩)] w fun R w' => R = .returned (.int .i64 (used E)) ∧ w = w' := by
  have c1 := h.c1
  have hu := h.good.use
  have hq := h.good.q2
  have hl := h.good.len
  have HR := Lib.hid h.row
  clear h
  go_enter Tryz.func89, Tryz.ntmps89
  go_wp2
  go_loop [4, 3] (fun i s => ∃ k u : Nat, k ≤ E.length ∧ i = .int .i64 k ∧ s = .int .i64 u ∧ Hid (u = used (E.take k))) (fun i _ => E.length - (intOf i).toNat)
  case atStart => exact ⟨0, 0, Nat.zero_le _, rfl, rfl, rfl⟩
  case round =>
    obtain ⟨k, u, hk, rfl, rfl, HU⟩ := hrel
    by_cases hlt : k < E.length
    · have i2 : (k : Int) < (E.length : Int) := by omega
      obtain ⟨gr, rfl, d0, d1, d2⟩ := HR.out.at hlt
      obtain ⟨m, hm⟩ : ∃ m, (E[k]'hlt).bs.length = m := ⟨_, rfl⟩
      have hsz := str_size (E[k]'hlt).bs
      have hut := used_take hlt
      have hle := used_take_le E (k + 1)
      rw [← HU.out, hm] at hut
      rw [hm] at hsz
      have hum : u + m ≤ 1048576 := by omega
      have HN : Hid (u + m = used (E.take (k + 1))) := hut.symm
      clear hut hle d0 d2 hm
      generalize (E[k]'hlt).bs = bs at *
      go_wp2
      go_round
      case rel => exact ⟨k + 1, u + m, by omega, by go_num, by go_num, HN.out⟩
      case measure => simp [intOf]; omega
    · have hx : k = E.length := by omega
      have i2 : ¬ (k : Int) < (E.length : Int) := by omega
      have HX := Lib.hid hx
      clear hx hlt hk
      go_wp2
      go_ret
      exact ⟨by rw [HU.out, HX.out, List.take_length]; rfl, rfl⟩
theorem lst_form {w : World} {B : Nat} {v : Value} {l : List (List UInt8)} (h : Lst w B v l) : ∃ ao cap, v = .slice ao l.length cap := by
  rcases h.2 with ⟨rfl, h0⟩ | ⟨g, cap, cur, rfl, _⟩
  · rw [h0]; exact ⟨_, _, rfl⟩
  · exact ⟨_, _, rfl⟩
theorem lst_step {w w1 w2 : World} {B : Nat} {v v2 : Value} {l : List (List UInt8)} {n : List UInt8} (h : Lst w1 B v l) (hb : Below B w w1) (hr : w2.ownsRow B 9 1 v2 (l.length + 1) (l.map (fun n => .string (str n)) ++ [.string (str n)]))
    (wa : World) (ha : Below w1.heap.size w1 wa) (hg : wa.grownBy w2 v.ownBlock) (hB : B ≤ w1.heap.size) : Lst w2 B v2 (l ++ [n]) ∧ Below B w w2 := by
  constructor
  · unfold Lst
    rw [List.map_append, List.length_append]
    exact hr
  · have h2 : Below B w1 wa := ha.mono hB
    exact (hb.trans h2).trans ((Tu.grown hg).below (fun x hx e => by have := (h.lt x e.symm).1; omega) (Nat.le_trans hB ha.size))
set_option maxHeartbeats 1000000 in
theorem rlist_c (h : RkC S w g q ao cap E) : Calls Tryz.prog 17 #[.pointer (some ⟨g, 0, none⟩)] w fun R w' => ∃ u, R = .returned u ∧ Lst w' w.heap.size u (E.map Ent.nm) ∧ Below w.heap.size w w' := by
  obtain ⟨i0, hi0, hz0, hz1, hz2⟩ := info_parts info_st
  have HI0 := Lib.hid hi0
  have HZ0 := Lib.hid hz0
  have HZ1 := Lib.hid hz1
  have HZ2 := Lib.hid hz2
  clear hi0 hz0 hz1 hz2
  have hl := h.good.len
  have HK := Lib.hid h
  clear h
  have c1 := HK.out.c1
  go_enter Tryz.func17, Tryz.ntmps17
  go_wp2
  clear c1
  go_loopw [4, 3] (fun i v wr => ∃ k : Nat, k ≤ E.length ∧ i = .int .i64 k ∧ Hid (Lst wr w.heap.size v ((E.take k).map Ent.nm)) ∧ Hid (Below w.heap.size w wr)) (fun i _ _ => E.length - (intOf i).toNat)
  case atStart => exact ⟨0, Nat.zero_le _, rfl, (World.ownsRow_nil _ _ _ _ : Lst w w.heap.size (.slice none 0 0) []), Below.refl _ _⟩
  case round =>
    obtain ⟨k, hk, rfl, HLs, HB⟩ := hrel
    have c1 := (HK.out.new HB.out).c1
    by_cases hlt : k < E.length
    · have i2 : (k : Int) < (E.length : Int) := by omega
      obtain ⟨gr, rfl, d0, d1, d2⟩ := (HK.out.new HB.out).row.at hlt
      obtain ⟨vo, vc, rfl⟩ := lst_form HLs.out
      have hkl : ((E.take k).map Ent.nm).length = k := by rw [List.length_map, List.length_take]; omega
      have HT : Hid ((E.take (k + 1)).map Ent.nm = (E.take k).map Ent.nm ++ [(E[k]'hlt).nm]) := by show _ = _; rw [List.take_succ_eq_append_getElem hlt, List.map_append]; rfl
      clear d1 d2
      generalize (E[k]'hlt).nm = n at *
      generalize (E.take k).map Ent.nm = nl at *
      have hB := HB.out.size
      have hb1 : nl.length + 1 ≤ maxLen := by unfold maxLen; omega
      have hb2 : (nl.length + 1) * 16 ≤ 140737488355328 := by omega
      go_wp2_with (at_builtin; refine wpList_append_lies _ rfl _ _ 47 rfl w.heap.size 9 i0 (.string ⟨#[]⟩) 1 16 Tryz.underlying47 HI0.out HZ0.out HZ1.out HZ2.out rfl (by decide) _ nl.length _ rfl (World.ownsRow.alloc HLs.out _) ⟨wr.heap.size, 0, none⟩ 1 1 [.string (str n)] rfl rfl (cell_one_new _ _ _) (by simp [Value.oneCell']) (by decide) hb1 hb2 (by simp; omega) _ rfl ?_; intro g' cap' w2 hown' hgr _ _; obtain ⟨hl2, hb2'⟩ := lst_step HLs.out HB.out hown' _ (below_alloc wr _) hgr hB; rw [← HT.out] at hl2; have HL2 := Lib.hid hl2; have HB2 := Lib.hid hb2'; clear hown' hgr hl2 hb2')
      go_round
      case rel => exact ⟨k + 1, by omega, by go_num, (by have := HL2.out; rw [hkl] at this; exact this), HB2.out⟩
      case measure => simp [intOf]; omega
    · have hx : k = E.length := by omega
      have i2 : ¬ (k : Int) < (E.length : Int) := by omega
      have HX := Lib.hid hx
      clear hx hlt hk
      go_wp2
      go_ret
      exact ⟨_, rfl, by have := HLs.out; rw [HX.out, List.take_length] at this; exact this, HB.out⟩
end
end Go.Proofs.YtacgmadgkmcmoaaGreatDoor
/- The document's disk: Sync, Append; Same. -/
namespace Go.Proofs.YtacgmadgkmcmoaaGreatDoor
open Go.RowKit Go.Shelf Go.Deep
set_option linter.unusedVariables false
set_option linter.unusedSimpArgs false
set_option maxRecDepth 100000

theorem fcs_set : ∀ (E : List Ent) (k : Nat) (h : k < E.length) (e' : Ent) (i : Nat) (u : Value), i < 3 → fc e' = (fc (E[k]'h)).set i u → fcs (E.set k e') = (fcs E).set (k * 3 + i) u
  | e :: r, 0, _, e', i, u, hi, he => by
    simp only [List.set_cons_zero, fcs, Nat.zero_mul, Nat.zero_add]
    rw [he, List.set_append_left _ _ (show i < (fc e).length from hi)]
    rfl
  | e :: r, k + 1, h, e', i, u, hi, he => by
    have ih := fcs_set r k (by simpa using h) e' i u hi he
    simp only [List.set_cons_succ, fcs]
    rw [ih, List.set_append_right _ _ (by simp [fc]; omega)]
    congr 2
    simp [fc]; omega
theorem FRow.set {B : Nat} {w : World} {g cap : Nat} {E : List Ent} (h : FRow B w (.slice (some ⟨g, 0, none⟩) E.length cap) E) {k : Nat} (hk : k < E.length) (e' : Ent) (i : Nat) (u : Value) (hi : i < 3) (he : fc e' = (fc (E[k]'hk)).set i u) :
    FRow B (w.setCell ⟨g, k * 3 + i, none⟩ u) (.slice (some ⟨g, 0, none⟩) (E.set k e').length cap) (E.set k e') ∧ w.grownBy (w.setCell ⟨g, k * 3 + i, none⟩ u) (some g) := by
  have := World.ownsRow.stored h (k * 3 + i) u
  unfold FRow
  rw [fcs_set E k hk e' i u hi he, List.length_set]
  exact this
theorem setE_set {E : List Ent} (hs : Srt Ent.nm E) {j : Nat} (hj : j < E.length) (f : Ent) (hf : f.nm = (E[j]'hj).nm) : setE f E = E.set j f := by
  have hp : E = E.take j ++ (E[j]'hj) :: E.drop (j + 1) := by rw [List.getElem_cons_drop, List.take_append_drop]
  rw [List.set_eq_take_append_cons_drop, if_pos hj]
  conv => lhs; rw [hp]
  refine setE_mid ?_ hf
  rw [← hp]; exact hs
section
variable {S : Nat → Prop} {w : World} {g q cap : Nat} {ao : Option Addr} {E : List Ent}
/-- One cell of one file has turned. -/
theorem RkC.set {gr : Nat} (h : RkC S w g q (some ⟨gr, 0, none⟩) cap E) {k : Nat} (hk : k < E.length) (e' : Ent) (i : Nat) (u : Value) (hi : i < 3) (he : fc e' = (fc (E[k]'hk)).set i u) (hG : DGood q (E.set k e')) :
    RkC S (w.setCell ⟨gr, k * 3 + i, none⟩ u) g q (some ⟨gr, 0, none⟩) cap (E.set k e') ∧ Tu S w (w.setCell ⟨gr, k * 3 + i, none⟩ u) := by
  obtain ⟨h1, h2⟩ := h.row.set hk e' i u hi he
  have hne : (Value.slice (some ⟨gr, 0, none⟩) E.length cap).ownBlock ≠ some g := row_unlike h.row h.blk (by decide)
  have ht := Tu.grown h2
  have hb := h.blk.tu ht (by intro e; exact hne (by simpa [Value.ownBlock] using e.symm))
  rw [show E.length = (E.set k e').length from (List.length_set ..).symm] at hb
  exact ⟨⟨hb, h1, h.sg, fun x hx => h.sr x hx, hG⟩, ht.mono fun x _ hx => h.sr x (by simpa [Value.ownBlock] using hx.symm)⟩
set_option maxHeartbeats 1000000 in
theorem rsync_c (h : RkC S w g q ao cap E) (n : List UInt8) (hn : n.length ≤ maxLen) :
    Calls Tryz.prog 43 #[.pointer (some ⟨g, 0, none⟩), .string (str n)] w fun R w' => R = .returned (.int .i64 (eFind E n)) ∧ RkS S w' (.pointer (some ⟨g, 0, none⟩)) q (aSync E n) ∧ Tu S w w' := by
  have hl := look2_c h n hn
  have HK := Lib.hid h
  have HG := Lib.hid (good_sync h.good n)
  have HF : Hid (eFind E n = if isNm n then (match fnd n E with | some _ => 0 | none => 5) else 2) := rfl
  have HA : Hid (aSync E n = if isNm n then (match fnd n E with | some f => setE ⟨f.nm, f.bs, f.bs.length⟩ E | none => E) else E) := rfl
  clear h
  go_enter Tryz.func43, Tryz.ntmps43
  go_wp2_with fail
  refine hl.mono ?_
  rintro R w1 ⟨rfl, ⟨h1, rfl⟩ | ⟨h1, h2, rfl⟩ | ⟨j, hj, h1, h2, h3, rfl⟩⟩
  · have H1 := Lib.hid h1
    clear h1
    go_wp2
    go_ret
    exact ⟨by rw [HF.out, H1.out]; rfl, ⟨_, _, _, rfl, by rw [HA.out, H1.out]; exact HK.out⟩, Tu.refl _ _⟩
  · have H1 := Lib.hid h1
    have H2 := Lib.hid h2
    clear h1 h2
    go_wp2
    go_ret
    exact ⟨by rw [HF.out, H1.out, H2.out]; rfl, ⟨_, _, _, rfl, by rw [HA.out, H1.out, H2.out]; exact HK.out⟩, Tu.refl _ _⟩
  · have HE : Hid (aSync E n = E.set j ⟨(E[j]'hj).nm, (E[j]'hj).bs, (E[j]'hj).bs.length⟩) := by show _ = _; rw [HA.out, h1, h3]; exact setE_set HK.out.good.srt hj _ rfl
    have HFF : Hid (eFind E n = 0) := by show _ = _; rw [HF.out, h1, h3]; rfl
    obtain ⟨gr, rfl, d0, d1, d2⟩ := HK.out.row.at hj
    have c1 := HK.out.c1
    have i2 : (j : Int) < (E.length : Int) := by omega
    have hsz := str_size (E[j]'hj).bs
    have hfz := World.ownsRow.frozenAt HK.out.row (j * 3 + 2)
    have HST := Lib.hid (HK.out.set hj ⟨(E[j]'hj).nm, (E[j]'hj).bs, (E[j]'hj).bs.length⟩ 2 (.int .i64 ((E[j]'hj).bs.length : Int)) (by decide) rfl (by have := HG.out; rw [HE.out] at this; exact this))
    have HJ := Lib.hid hj
    clear h1 h2 h3 d0 hl
    generalize hbs : (E[j]'hj).bs = bs at *
    go_upto_region 3 with fail
    have hs0 : w.drew = w.drew := rfl
    refine wp_region_till (S := fun w' => w' = w.drew) (by kernel_rfl) ?_
    refine wpTill_take (i := 0) (v := ?va0) rfl (by kernel_rfl) (fun _ _ _ h => h) (Or.inl ⟨by rfl, ?hya0⟩) rfl ?resta0
    case hya0 => (intro W hW; (try dsimp only at hW); go_simp; try with_reducible rfl)
    simp only [Act.put, List.setIfInBounds_toArray, List.set_cons_zero, List.set_cons_succ]
    refine wpTill_take (i := 1) (v := ?va1) rfl (by kernel_rfl) (fun _ _ _ h => h) (Or.inl ⟨by rfl, ?hya1⟩) rfl ?resta1
    case hya1 => (intro W hW; (try dsimp only at hW); go_simp; try with_reducible rfl)
    simp only [Act.put, List.setIfInBounds_toArray, List.set_cons_zero, List.set_cons_succ]
    refine wpTill_take (i := 2) (v := ?va2) rfl (by kernel_rfl) (fun _ _ _ h => h) (Or.inl ⟨by rfl, ?hya2⟩) rfl ?resta2
    case hya2 => (intro W hW; (try dsimp only at hW); go_simp; try with_reducible rfl)
    simp only [Act.put, List.setIfInBounds_toArray, List.set_cons_zero, List.set_cons_succ]
    refine wpTill_take (i := 3) (v := ?va3) rfl (by kernel_rfl) (fun _ _ _ h => h) (Or.inl ⟨by rfl, ?hya3⟩) rfl ?resta3
    case hya3 => (intro W hW; (try dsimp only at hW); go_simp; try with_reducible rfl)
    simp only [Act.put, List.setIfInBounds_toArray, List.set_cons_zero, List.set_cons_succ]
    refine wpTill_take (i := 4) (v := ?va4) rfl (by kernel_rfl) (fun _ _ _ h => h) (Or.inl ⟨by rfl, ?hya4⟩) rfl ?resta4
    case hya4 => (intro W hW; (try dsimp only at hW); go_simp; try with_reducible rfl)
    simp only [Act.put, List.setIfInBounds_toArray, List.set_cons_zero, List.set_cons_succ]
    refine wpTill_take (i := 5) (v := ?va5) rfl (by kernel_rfl) (fun _ _ _ h => h) (Or.inl ⟨by rfl, ?hya5⟩) rfl ?resta5
    case hya5 => (intro W hW; (try dsimp only at hW); go_simp; try with_reducible rfl)
    simp only [Act.put, List.setIfInBounds_toArray, List.set_cons_zero, List.set_cons_succ]
    refine wpTill_take (i := 6) (v := ?va6) rfl (by kernel_rfl) (fun _ _ _ h => h) (Or.inl ⟨by rfl, ?hya6⟩) rfl ?resta6
    case hya6 => (intro W hW; (try dsimp only at hW); go_simp; try with_reducible rfl)
    simp only [Act.put, List.setIfInBounds_toArray, List.set_cons_zero, List.set_cons_succ]
    refine wpTill_take (i := 7) (v := ?va7) rfl (by kernel_rfl) (fun _ _ _ h => h) (Or.inl ⟨by rfl, ?hya7⟩) rfl ?resta7
    case hya7 => (intro W hW; (try dsimp only at hW); go_simp; try with_reducible rfl)
    simp only [Act.put, List.setIfInBounds_toArray, List.set_cons_zero, List.set_cons_succ]
    refine wpTill_take (i := 8) (v := ?va8) rfl (by kernel_rfl) (fun _ _ _ h => h) (Or.inl ⟨by rfl, ?hya8⟩) rfl ?resta8
    case hya8 => (intro W hW; (try dsimp only at hW); go_simp; try with_reducible rfl)
    simp only [Act.put, List.setIfInBounds_toArray, List.set_cons_zero, List.set_cons_succ]
    refine wpTill_take (i := 9) (v := ?va9) rfl (by kernel_rfl) (fun _ _ _ h => h) (Or.inl ⟨by rfl, ?hya9⟩) rfl ?resta9
    case hya9 => (intro W hW; (try dsimp only at hW); go_simp; try with_reducible rfl)
    simp only [Act.put, List.setIfInBounds_toArray, List.set_cons_zero, List.set_cons_succ]
    refine wpTill_take (i := 10) (v := ?va10) rfl (by kernel_rfl) (fun _ _ _ h => h) (Or.inl ⟨by rfl, ?hya10⟩) rfl ?resta10
    case hya10 => (intro W hW; (try dsimp only at hW); go_simp; try with_reducible rfl)
    simp only [Act.put, List.setIfInBounds_toArray, List.set_cons_zero, List.set_cons_succ]
    refine wpTill_take (i := 11) (v := ?va11) rfl (by kernel_rfl) (fun _ _ _ h => h) (Or.inl ⟨by rfl, ?hya11⟩) rfl ?resta11
    case hya11 => (intro W hW; (try dsimp only at hW); go_simp; try with_reducible rfl)
    simp only [Act.put, List.setIfInBounds_toArray, List.set_cons_zero, List.set_cons_succ]
    refine wpTill_take (i := 12) (v := ?va12) rfl (by kernel_rfl) (fun _ _ _ h => h) (Or.inl ⟨by rfl, ?hya12⟩) rfl ?resta12
    case hya12 => (intro W hW; (try dsimp only at hW); go_simp; try with_reducible rfl)
    simp only [Act.put, List.setIfInBounds_toArray, List.set_cons_zero, List.set_cons_succ]
    refine wpTill_take (i := 13) (v := ?va13) rfl (by kernel_rfl) (fun _ _ _ h => h) (Or.inl ⟨by rfl, ?hya13⟩) rfl ?resta13
    case hya13 => (intro W hW; (try dsimp only at hW); go_simp; try with_reducible rfl)
    simp only [Act.put, List.setIfInBounds_toArray, List.set_cons_zero, List.set_cons_succ]
    refine wpTill_take (i := 14) (v := ?va14) rfl (by kernel_rfl) (fun _ _ _ h => h) (Or.inl ⟨by rfl, ?hya14⟩) rfl ?resta14
    case hya14 => (intro W hW; (try dsimp only at hW); go_simp; try with_reducible rfl)
    simp only [Act.put, List.setIfInBounds_toArray, List.set_cons_zero, List.set_cons_succ]
    refine wpTill_take (i := 15) (v := ?va15) rfl (by kernel_rfl) (fun _ _ _ h => h) (Or.inl ⟨by rfl, ?hya15⟩) rfl ?resta15
    case hya15 => (intro W hW; (try dsimp only at hW); go_simp; try with_reducible rfl)
    simp only [Act.put, List.setIfInBounds_toArray, List.set_cons_zero, List.set_cons_succ]
    refine wpTill_run (i := 16) (by kernel_rfl) rfl rfl (fun K hK => ?_)
    go_simp
    refine hK _ _ ?_
    clear hK K
    refine wpTill_done (by kernel_rfl) ?_
    go_wp2
    go_ret
    refine ⟨by rw [HFF.out]; rfl, ?_, ?_⟩
    · rw [HE.out]
      exact ⟨_, _, _, rfl, HST.out.1.tu (S' := fun _ => False) (Tu.refl _ _).draw (fun _ _ _ h => h)⟩
    · exact HST.out.2.draw
theorem Tu.drewN {S : Nat → Prop} (w : World) (k : Nat) : Tu S w (w.drewN k) := Tu.new (below_drewN (Below.refl _ w) k)
theorem aAppend_at {q : Nat} {E : List Ent} {n b : List UInt8} (hs : Srt Ent.nm E) {j : Nat} (hj : j < E.length) (h1 : isNm n = true) (h3 : fnd n E = some (E[j]'hj)) :
    ((65536 < (E[j]'hj).bs.length + b.length ∨ q < used E + b.length) ∧ eAppend q E n b = 7 ∧ aAppend q E n b = E) ∨
    (¬ (65536 < (E[j]'hj).bs.length + b.length ∨ q < used E + b.length) ∧ eAppend q E n b = 0 ∧ aAppend q E n b = E.set j ⟨(E[j]'hj).nm, (E[j]'hj).bs ++ b, (E[j]'hj).su⟩) := by
  by_cases hl : 65536 < (E[j]'hj).bs.length + b.length ∨ q < used E + b.length
  · have he : eAppend q E n b = 7 := by unfold eAppend; rw [h1, h3]; simp only [ite_true]; exact if_pos hl
    refine .inl ⟨hl, he, ?_⟩
    unfold aAppend; rw [he]; rfl
  · have he : eAppend q E n b = 0 := by unfold eAppend; rw [h1, h3]; simp only [ite_true]; exact if_neg hl
    refine .inr ⟨hl, he, ?_⟩
    unfold aAppend
    rw [he, h3]
    exact setE_set hs hj _ rfl
set_option maxHeartbeats 1000000 in
theorem rappend_c (h : RkC S w g q ao cap E) (n b : List UInt8) (hn : n.length ≤ maxLen) (hbl : b.length ≤ maxLen) :
    Calls Tryz.prog 42 #[.pointer (some ⟨g, 0, none⟩), .string (str n), .string (str b)] w fun R w' => R = .returned (.int .i64 (eAppend q E n b)) ∧ RkS S w' (.pointer (some ⟨g, 0, none⟩)) q (aAppend q E n b) ∧ Tu S w w' := by
  have hl := look2_c h n hn
  have HK := Lib.hid h
  have hu := h.good.use
  have hq := h.good.q2
  have hsb := str_size b
  simp only [maxLen] at hbl
  have HG := Lib.hid (good_append h.good n b)
  have HF : Hid (isNm n = false → eAppend q E n b = 2 ∧ aAppend q E n b = E) := fun h1 => by
    have he : eAppend q E n b = 2 := by unfold eAppend; rw [h1]; rfl
    exact ⟨he, by unfold aAppend; rw [he]; rfl⟩
  have HF2 : Hid (isNm n = true → fnd n E = none → eAppend q E n b = 5 ∧ aAppend q E n b = E) := fun h1 h2 => by
    have he : eAppend q E n b = 5 := by unfold eAppend; rw [h1, h2]; rfl
    exact ⟨he, by unfold aAppend; rw [he]; rfl⟩
  have HF3 := Lib.hid (fun (j : Nat) (hj : j < E.length) (h1 : isNm n = true) (h3 : fnd n E = some (E[j]'hj)) => aAppend_at (q := q) (b := b) h.good.srt hj h1 h3)
  have HU : Hid (∀ k, Calls Tryz.prog 89 #[.pointer (some ⟨g, 0, none⟩)] (w.drewN k) fun R w' => R = .returned (.int .i64 (used E)) ∧ w' = w.drewN k) := fun k => (rused_c (h.tu (S' := fun _ => False) (Tu.drewN w k) (fun _ _ _ h => h))).mono fun _ _ ⟨he, hw⟩ => ⟨he, hw.symm⟩
  clear h
  go_enter Tryz.func42, Tryz.ntmps42
  go_wp2_with fail
  refine hl.mono ?_
  rintro R w1 ⟨rfl, ⟨h1, rfl⟩ | ⟨h1, h2, rfl⟩ | ⟨j, hj, h1, h2, h3, rfl⟩⟩
  · have H1 := Lib.hid h1
    clear h1
    go_wp2
    go_ret
    exact ⟨by rw [(HF.out H1.out).1]; rfl, ⟨_, _, _, rfl, by rw [(HF.out H1.out).2]; exact HK.out⟩, Tu.refl _ _⟩
  · have H1 := Lib.hid h1
    have H2 := Lib.hid h2
    clear h1 h2
    go_wp2
    go_ret
    exact ⟨by rw [(HF2.out H1.out H2.out).1]; rfl, ⟨_, _, _, rfl, by rw [(HF2.out H1.out H2.out).2]; exact HK.out⟩, Tu.refl _ _⟩
  · have H3 := Lib.hid (HF3.out j hj h1 h3)
    obtain ⟨gr, rfl, d0, d1, d2⟩ := HK.out.row.at hj
    have c0 := HK.out.c0
    have c1 := HK.out.c1
    have i2 : (j : Int) < (E.length : Int) := by omega
    have hsz := str_size (E[j]'hj).bs
    have hmost := HK.out.good.most _ (List.getElem_mem hj)
    have hap := str_append (E[j]'hj).bs b
    have hfz := World.ownsRow.frozenAt HK.out.row (j * 3 + 1)
    have HST := Lib.hid (HK.out.set hj ⟨(E[j]'hj).nm, (E[j]'hj).bs ++ b, (E[j]'hj).su⟩ 1 (.string (str ((E[j]'hj).bs ++ b))) (by decide) rfl)
    have HJ := Lib.hid hj
    clear h1 h2 h3 d0 d2 hl HF HF2 HF3
    generalize hbs : (E[j]'hj).bs = bs at *
    obtain ⟨u, hue⟩ : ∃ u, used E = u := ⟨_, rfl⟩
    rw [hue] at hu
    have hr1 : IntKind.i64.wrap (65536 - (bs.length : Int)) = 65536 - (bs.length : Int) := IntWalk.i64_in _ ⟨by omega, by omega⟩
    have hr2 : IntKind.i64.wrap ((q : Int) - (u : Int)) = (q : Int) - (u : Int) := IntWalk.i64_in _ ⟨by omega, by omega⟩
    rw [hue] at HU H3
    rcases H3.out with ⟨ho, he, ha⟩ | ⟨ho, he, ha⟩
    · have HE := Lib.hid he
      have HA := Lib.hid ha
      clear he ha H3
      by_cases ho1 : 65536 < bs.length + b.length
      · have hd : decide (65536 - (bs.length : Int) < (b.length : Int)) = true := decide_eq_true (by omega)
        go_upto_region 4 with fail
        go_quiet (fail)
        go_wp2
        go_ret
        exact ⟨by rw [HE.out]; rfl, ⟨_, _, _, rfl, by rw [HA.out]; exact HK.out.tu (S' := fun _ => False) (Tu.drewN w _) (fun _ _ _ h => h)⟩, Tu.drewN w _⟩
      · have hd : decide (65536 - (bs.length : Int) < (b.length : Int)) = false := decide_eq_false (by omega)
        have hd2 : (q : Int) - (u : Int) < (b.length : Int) := by omega
        go_upto_region 4 with fail
        go_quiet (first | (go_at_call 89; exact Calls.quiet_of_same (HU.out _)))
        go_wp2
        go_ret
        exact ⟨by rw [HE.out]; rfl, ⟨_, _, _, rfl, by rw [HA.out]; exact HK.out.tu (S' := fun _ => False) (Tu.drewN w _) (fun _ _ _ h => h)⟩, Tu.drewN w _⟩
    · have HE := Lib.hid he
      have HA := Lib.hid ha
      have hG : DGood q (E.set j ⟨(E[j]'hj).nm, bs ++ b, (E[j]'hj).su⟩) := by have := HG.out; rw [ha] at this; exact this
      have HGS := Lib.hid hG
      clear he ha H3 hG HST hfz d1
      have hd : decide (65536 - (bs.length : Int) < (b.length : Int)) = false := decide_eq_false (by omega)
      have hd2 : decide ((q : Int) - (u : Int) < (b.length : Int)) = false := decide_eq_false (by omega)
      have d1 : w.cell? ⟨gr, j * 3 + 1, none⟩ = some (.string (str bs)) := by
        obtain ⟨_, e, _, x, _⟩ := HK.out.row.at hj
        cases e
        rw [hbs] at x
        exact x
      go_upto_region 4 with fail
      go_quiet (first | (go_at_call 89; exact Calls.quiet_of_same (HU.out _)))
      have HT := Lib.hid (Tu.drewN (S := S) w nq)
      have HK2 := Lib.hid (HK.out.tu (S' := fun _ => False) (Tu.drewN w nq) (fun _ _ _ h => h))
      clear c0 c1 d1 hd hd2 HU HG HK
      generalize w.drewN nq = wa at *
      have c1 := HK2.out.c1
      have d1 : wa.cell? ⟨gr, j * 3 + 1, none⟩ = some (.string (str bs)) := by
        obtain ⟨_, e, _, x, _⟩ := HK2.out.row.at hj
        cases e
        rw [hbs] at x
        exact x
      have hfz := World.ownsRow.frozenAt HK2.out.row (j * 3 + 1)
      have HST := Lib.hid (HK2.out.set hj ⟨(E[j]'hj).nm, bs ++ b, (E[j]'hj).su⟩ 1 (.string (str (bs ++ b))) (by decide) (by simp [fc]) HGS.out)
      have h63 : ¬ 9223372036854775807 < bs.length + b.length := by omega
      go_upto_region 6 with fail
      refine wp_region_till (S := fun w' => w' = wa.drew) (by kernel_rfl) ?_
      refine wpTill_take (i := 0) (v := ?vb0) rfl (by kernel_rfl) (fun _ _ _ h => h) (Or.inl ⟨by rfl, ?hyb0⟩) rfl ?restb0
      case hyb0 => (intro W hW; (try dsimp only at hW); go_simp; try with_reducible rfl)
      simp only [Act.put, List.setIfInBounds_toArray, List.set_cons_zero, List.set_cons_succ]
      refine wpTill_take (i := 1) (v := ?vb1) rfl (by kernel_rfl) (fun _ _ _ h => h) (Or.inl ⟨by rfl, ?hyb1⟩) rfl ?restb1
      case hyb1 => (intro W hW; (try dsimp only at hW); go_simp; try with_reducible rfl)
      simp only [Act.put, List.setIfInBounds_toArray, List.set_cons_zero, List.set_cons_succ]
      refine wpTill_take (i := 2) (v := ?vb2) rfl (by kernel_rfl) (fun _ _ _ h => h) (Or.inl ⟨by rfl, ?hyb2⟩) rfl ?restb2
      case hyb2 => (intro W hW; (try dsimp only at hW); go_simp; try with_reducible rfl)
      simp only [Act.put, List.setIfInBounds_toArray, List.set_cons_zero, List.set_cons_succ]
      refine wpTill_take (i := 3) (v := ?vb3) rfl (by kernel_rfl) (fun _ _ _ h => h) (Or.inl ⟨by rfl, ?hyb3⟩) rfl ?restb3
      case hyb3 => (intro W hW; (try dsimp only at hW); go_simp; try with_reducible rfl)
      simp only [Act.put, List.setIfInBounds_toArray, List.set_cons_zero, List.set_cons_succ]
      refine wpTill_take (i := 4) (v := ?vb4) rfl (by kernel_rfl) (fun _ _ _ h => h) (Or.inl ⟨by rfl, ?hyb4⟩) rfl ?restb4
      case hyb4 => (intro W hW; (try dsimp only at hW); go_simp; try with_reducible rfl)
      simp only [Act.put, List.setIfInBounds_toArray, List.set_cons_zero, List.set_cons_succ]
      refine wpTill_take (i := 5) (v := ?vb5) rfl (by kernel_rfl) (fun _ _ _ h => h) (Or.inl ⟨by rfl, ?hyb5⟩) rfl ?restb5
      case hyb5 => (intro W hW; (try dsimp only at hW); go_simp; try with_reducible rfl)
      simp only [Act.put, List.setIfInBounds_toArray, List.set_cons_zero, List.set_cons_succ]
      refine wpTill_take (i := 6) (v := ?vb6) rfl (by kernel_rfl) (fun _ _ _ h => h) (Or.inl ⟨by rfl, ?hyb6⟩) rfl ?restb6
      case hyb6 => (intro W hW; (try dsimp only at hW); go_simp; try with_reducible rfl)
      simp only [Act.put, List.setIfInBounds_toArray, List.set_cons_zero, List.set_cons_succ]
      refine wpTill_take (i := 7) (v := ?vb7) rfl (by kernel_rfl) (fun _ _ _ h => h) (Or.inl ⟨by rfl, ?hyb7⟩) rfl ?restb7
      case hyb7 => (intro W hW; (try dsimp only at hW); go_simp; try with_reducible rfl)
      simp only [Act.put, List.setIfInBounds_toArray, List.set_cons_zero, List.set_cons_succ]
      refine wpTill_take (i := 8) (v := ?vb8) rfl (by kernel_rfl) (fun _ _ _ h => h) (Or.inl ⟨by rfl, ?hyb8⟩) rfl ?restb8
      case hyb8 => (intro W hW; (try dsimp only at hW); go_simp; try with_reducible rfl)
      simp only [Act.put, List.setIfInBounds_toArray, List.set_cons_zero, List.set_cons_succ]
      refine wpTill_take (i := 9) (v := ?vb9) rfl (by kernel_rfl) (fun _ _ _ h => h) (Or.inl ⟨by rfl, ?hyb9⟩) rfl ?restb9
      case hyb9 => (intro W hW; (try dsimp only at hW); go_simp; try with_reducible rfl)
      simp only [Act.put, List.setIfInBounds_toArray, List.set_cons_zero, List.set_cons_succ]
      refine wpTill_take (i := 10) (v := ?vb10) rfl (by kernel_rfl) (fun _ _ _ h => h) (Or.inl ⟨by rfl, ?hyb10⟩) rfl ?restb10
      case hyb10 => (intro W hW; (try dsimp only at hW); go_simp; try with_reducible rfl)
      simp only [Act.put, List.setIfInBounds_toArray, List.set_cons_zero, List.set_cons_succ]
      refine wpTill_take (i := 11) (v := ?vb11) rfl (by kernel_rfl) (fun _ _ _ h => h) (Or.inl ⟨by rfl, ?hyb11⟩) rfl ?restb11
      case hyb11 => (intro W hW; (try dsimp only at hW); go_simp; try with_reducible rfl)
      simp only [Act.put, List.setIfInBounds_toArray, List.set_cons_zero, List.set_cons_succ]
      refine wpTill_take (i := 12) (v := ?vb12) rfl (by kernel_rfl) (fun _ _ _ h => h) (Or.inl ⟨by rfl, ?hyb12⟩) rfl ?restb12
      case hyb12 => (intro W hW; (try dsimp only at hW); go_simp; try with_reducible rfl)
      simp only [Act.put, List.setIfInBounds_toArray, List.set_cons_zero, List.set_cons_succ]
      refine wpTill_take (i := 13) (v := ?vb13) rfl (by kernel_rfl) (fun _ _ _ h => h) (Or.inl ⟨by rfl, ?hyb13⟩) rfl ?restb13
      case hyb13 => (intro W hW; (try dsimp only at hW); go_simp; try with_reducible rfl)
      simp only [Act.put, List.setIfInBounds_toArray, List.set_cons_zero, List.set_cons_succ]
      refine wpTill_take (i := 14) (v := ?vb14) rfl (by kernel_rfl) (fun _ _ _ h => h) (Or.inl ⟨by rfl, ?hyb14⟩) rfl ?restb14
      case hyb14 => (intro W hW; (try dsimp only at hW); go_simp; try with_reducible rfl)
      simp only [Act.put, List.setIfInBounds_toArray, List.set_cons_zero, List.set_cons_succ]
      refine wpTill_take (i := 15) (v := ?vb15) rfl (by kernel_rfl) (fun _ _ _ h => h) (Or.inl ⟨by rfl, ?hyb15⟩) rfl ?restb15
      case hyb15 => (intro W hW; (try dsimp only at hW); go_simp; try with_reducible rfl)
      simp only [Act.put, List.setIfInBounds_toArray, List.set_cons_zero, List.set_cons_succ]
      refine wpTill_take (i := 16) (v := ?vb16) rfl (by kernel_rfl) (fun _ _ _ h => h) (Or.inl ⟨by rfl, ?hyb16⟩) rfl ?restb16
      case hyb16 => (intro W hW; (try dsimp only at hW); go_simp; try with_reducible rfl)
      simp only [Act.put, List.setIfInBounds_toArray, List.set_cons_zero, List.set_cons_succ]
      refine wpTill_run (i := 17) (by kernel_rfl) rfl rfl (fun K hK => ?_)
      go_simp
      refine hK _ _ ?_
      clear hK K
      refine wpTill_done (by kernel_rfl) ?_
      go_wp2
      go_ret
      refine ⟨by rw [HE.out]; rfl, ?_, ?_⟩
      · rw [HA.out]
        exact ⟨_, _, _, rfl, HST.out.1.tu (S' := fun _ => False) (Tu.refl _ _).draw (fun _ _ _ h => h)⟩
      · exact HT.out.trans HST.out.2.draw (fun _ _ h => h)

end
end Go.Proofs.YtacgmadgkmcmoaaGreatDoor
/- The document's disk: append of files to files; drop, put; Same. -/
namespace Go.Proofs.YtacgmadgkmcmoaaGreatDoor
open Go.RowKit Go.Shelf Go.Deep
set_option linter.unusedVariables false
set_option linter.unusedSimpArgs false
set_option maxRecDepth 100000

theorem info_fl : (Tryz.prog.info? 123).map (fun i => (i.zero, i.size, i.bytes)) = some (some (.agg #[.string ⟨#[]⟩, .string ⟨#[]⟩, .int .i64 0]), 3, 40) := by kernel_rfl
/-- Files that can be read in a slice. -/
def SrcF (w : World) (so : Option Addr) (sc : Nat) (D : List Ent) : Prop :=
  match so with
  | none => D = [] ∧ sc = 0
  | some ad => ∀ j u, (fcs D)[j]? = some u → w.cell? (ad.add j) = some u
theorem fcs_one : ∀ E : List Ent, ∀ u ∈ fcs E, u.oneCell' = true
  | [], u, h => by cases h
  | e :: r, u, h => by
    rcases List.mem_append.1 h with h | h
    · simp [fc] at h
      rcases h with rfl | rfl | rfl <;> rfl
    · exact fcs_one r u h
theorem FRow.nil (B : Nat) (w : World) : FRow B w (.slice none 0 0) [] := World.ownsRow_nil _ _ _ _
/-- append(v, x...): where it runs, what it leaves. -/
theorem app_fs {w : World} {base sc m N : Nat} {v : Value} {A D : List Ent} {so : Option Addr} (hown : FRow base w v A) (hm : D.length = m) (hN : A.length + m = N) (hD : SrcF w so sc D) (hl : N ≤ 1000) (hb : base ≤ w.heap.size) (ty : TypeId) :
    ∃ ao cap w', (Builtin.append_ #[119, 119] ty #[v, .slice so m sc]).run Tryz.prog w = .ok (.slice ao N cap) w' ∧ FRow base w' (.slice ao N cap) (A ++ D) ∧ w.grownBy w' v.ownBlock := by
  obtain ⟨i0, hi0, hz0, hz1, hz2⟩ := info_parts info_fl
  have hlen : (A ++ D).length = N := by rw [List.length_append, hm, hN]
  cases so with
  | none =>
    obtain ⟨rfl, rfl⟩ := hD
    obtain rfl : m = 0 := hm.symm
    obtain ⟨ao, cap, rfl⟩ := hown.form
    have hr := run_append_owned_none (P := Tryz.prog) w base 119 ty 123 i0 3 Tryz.underlying119 hi0 _ _ _ hown
    obtain rfl : A.length = N := hN
    exact ⟨ao, cap, w, hr, by rw [List.append_nil]; exact hown, grown_refl _ _⟩
  | some ad =>
    obtain ⟨v', w', h1, h2, h3, _⟩ := Go.run_append_own_at (P := Tryz.prog) w base 119 ty 123 i0 (.agg #[.string ⟨#[]⟩, .string ⟨#[]⟩, .int .i64 0]) 3 40 Tryz.underlying119 hi0 hz0 hz1 hz2 rfl (by decide) v A.length (fcs A) hown ad m sc (fcs D)
      (by rw [fcs_len, hm]) hD (fcs_one D) (by rw [hN]; simp only [maxLen]; omega) (by rw [hN]; omega) hb
    rw [← fcs_app, hN] at h2
    have h4 : FRow base w' v' (A ++ D) := by unfold FRow; rw [hlen]; exact h2
    obtain ⟨ao, cap, rfl⟩ := h4.form
    rw [hlen] at h1 h4
    exact ⟨ao, cap, w', h1, h4, h3⟩
section
variable {S : Nat → Prop} {w w' : World} {g q cap k : Nat} {ao : Option Addr} {E : List Ent}
theorem fcs_drop : ∀ (E : List Ent) (k j : Nat), (fcs (E.drop k))[j]? = (fcs E)[k * 3 + j]?
  | E, 0, j => by simp
  | [], k + 1, j => by simp [fcs]
  | e :: r, k + 1, j => by
    simp only [List.drop_succ_cons, fcs]
    rw [fcs_drop r k j, List.getElem?_append_right (by simp [fc]; omega)]
    congr 1
    simp [fc]; omega
theorem fcs_take : ∀ (E : List Ent) (k j : Nat) (u : Value), (fcs (E.take k))[j]? = some u → (fcs E)[j]? = some u
  | E, 0, j, u, h => by simp [fcs] at h
  | [], k + 1, j, u, h => by simp [fcs] at h
  | e :: r, k + 1, j, u, h => by
    simp only [List.take_succ_cons, fcs] at h ⊢
    by_cases hj : j < (fc e).length
    · rw [List.getElem?_append_left hj] at h ⊢; exact h
    · rw [List.getElem?_append_right (by omega)] at h ⊢
      exact fcs_take r k _ u h
/-- The head and the tail of a row, as sources. -/
theorem FRow.head {B gr : Nat} (h : FRow B w (.slice (some ⟨gr, 0, none⟩) E.length cap) E) (c k : Nat) : SrcF w (some ⟨gr, 0, none⟩) c (E.take k) := fun j u hu => World.ownsRow.cells (g := gr) h rfl j u (fcs_take E k j u hu)
theorem FRow.tail {B gr : Nat} (h : FRow B w (.slice (some ⟨gr, 0, none⟩) E.length cap) E) (c k : Nat) (hc : E.length ≤ cap) : SrcF w (if cap = k then some ⟨gr, 0, none⟩ else some ⟨gr, k * 3, none⟩) c (E.drop k) := by
  by_cases hk : cap = k
  · rw [if_pos hk, List.drop_eq_nil_of_le (by omega)]
    intro j u hu
    simp [fcs] at hu
  · rw [if_neg hk]
    intro j u hu
    rw [fcs_drop] at hu
    have := World.ownsRow.cells (g := gr) h rfl (k * 3 + j) u hu
    rw [Go.WideShapes.add_plain] at this ⊢
    rw [Nat.zero_add] at this
    exact this
theorem SrcF.to {so : Option Addr} {sc : Nat} {D : List Ent} (h : SrcF w so sc D) (hb : Below w.heap.size w w') : SrcF w' so sc D := by
  cases so with
  | none => exact h
  | some ad =>
    intro j u hu
    have h1 := h j u hu
    have hlt := World.block_lt_of_cell? w _ h1
    rw [hb.cell (p := ad.add j) hlt]
    exact h1
/-- The disk gets another row. -/
theorem RkC.relay {w2 : World} {N : Nat} {ao2 : Option Addr} {cap2 : Nat} {E2 : List Ent} (h : RkC S w g q ao cap E) (hS : ∀ x, w.heap.size ≤ x → S x) (hr : FRow w.heap.size w2 (.slice ao2 N cap2) E2) (hN : E2.length = N) (hb : Below w.heap.size w w2) (hG : DGood q E2) :
    RkC S (w2.setCell ⟨g, 1, none⟩ (.slice ao2 N cap2)) g q ao2 cap2 E2 ∧ Tu S w (w2.setCell ⟨g, 1, none⟩ (.slice ao2 N cap2)) := by
  subst hN
  have hlt := h.blk.lt
  have hc := (h.blk.below hb hlt).set 1 (.slice ao2 E2.length cap2)
  have ht := Tu.grown (grown_set w2 g 1 (.slice ao2 E2.length cap2))
  have hrow := hr.tu ht (fun x hx e => by
    have := (hr.lt x hx).1
    have e2 : x = g := by simpa using e
    omega)
  exact ⟨⟨hc, ownsRow_base_a hrow (Nat.zero_le _), h.sg, fun x hx => hS x (hr.lt x hx).1, hG⟩, (Tu.new hb).trans ht (fun x _ e => by
    have e2 : x = g := by simpa using e
    rw [e2]; exact h.sg)⟩
theorem below_own {w1 w2 : World} {B : Nat} {v : Value} {A : List Ent} (hb : Below B w w1) (hr : FRow B w1 v A) (hg : w1.grownBy w2 v.ownBlock) (hB : B ≤ w1.heap.size) : Below B w w2 :=
  hb.trans ((Tu.grown hg).below (fun x hx e => by have := (hr.lt x e.symm).1; omega) hB)
set_option maxHeartbeats 1000000 in
theorem edrop_c (h : RkC S w g q ao cap E) (hS : ∀ x, w.heap.size ≤ x → S x) (hk : k < E.length) (hG : DGood q (E.take k ++ E.drop (k + 1))) :
    Calls Tryz.prog 154 #[.pointer (some ⟨g, 0, none⟩), .int .i64 (k : Int)] w fun R w' => R = .returned (.tuple #[]) ∧ RkS S w' (.pointer (some ⟨g, 0, none⟩)) q (E.take k ++ E.drop (k + 1)) ∧ Tu S w w' := by
  have hel := h.good.len
  obtain ⟨gr, rfl, _⟩ := h.row.at hk
  have HK := Lib.hid h
  have c1 := h.c1
  have hcap : E.length ≤ cap := by
    rcases h.row.2 with ⟨he, _⟩ | ⟨_, _, _, he, _, _, hc, _⟩
    · cases he
    · injection he with e1 e2 e3; subst e3; exact hc
  obtain ⟨ao1, cap1, w1, hr1, hf1, hg1⟩ := app_fs (FRow.nil w.heap.size w) (show (E.take k).length = k by rw [List.length_take]; omega) (show ([] : List Ent).length + k = k by simp) (h.row.head cap k) (by omega) (Nat.le_refl _) 119
  rw [List.nil_append] at hf1
  have hb1 := (Tu.fresh (S := fun _ => False) hg1).below (fun _ _ h => h) (Nat.le_refl _)
  have h1 := h.new hb1
  have c2 := h1.c1
  obtain ⟨ao2, cap2, w2, hr2, hf2, hg2⟩ := app_fs hf1 (show (E.drop (k + 1)).length = E.length - (k + 1) by rw [List.length_drop]) (show (E.take k).length + (E.length - (k + 1)) = E.length - 1 by rw [List.length_take]; omega) ((h.row.tail (cap - (k + 1)) (k + 1) hcap).to hb1) (by omega) hb1.size 119
  have hb2 := below_own hb1 hf1 hg2 hb1.size
  have hfz := (h.blk.below hb2 h.blk.lt).frozen 1
  have HREL := Lib.hid (h.relay hS hf2 (by rw [List.length_append, List.length_take, List.length_drop]; omega) hb2 hG)
  have HB2 := Lib.hid hb2
  have HR1 := Lib.hid hr1
  have HR2 := Lib.hid hr2
  have HKG := h.blk.lt
  have c3 : w2.cell? ⟨g, 1, none⟩ = some (.slice (some ⟨gr, 0, none⟩) E.length cap) := by rw [(h.blk.below hb2 h.blk.lt).cell]; rfl
  have hk1 : (k : Int) + 1 ≤ (E.length : Int) := by omega
  clear hr1 hr2 hf1 hf2 hg1 hg2 hb1 hb2 h1 h
  go_enter Tryz.func154, Tryz.ntmps154
  go_upto_region 2 with (at_builtin; refine wpList_app rfl _ _ _ _ rfl _ _ _ rfl rfl HR1.out ?_)
  go_wp2_with (at_builtin; refine wpList_app rfl _ _ _ _ rfl _ _ _ rfl rfl HR2.out ?_)
  all_goals (
    go_end0
    exact ⟨rfl, ⟨_, _, _, rfl, HREL.out.1⟩, HREL.out.2⟩)
theorem bl_eq (a b : List UInt8) : Op.bytesLess (str a).toList (str b).toList = decide (a < b) := by rw [str_tl2, str_tl2, bytesLess_eq]
theorem bl_yes {a b : List UInt8} (h : a < b) : Op.bytesLess (str a).toList (str b).toList = true := by rw [bl_eq]; exact decide_eq_true h
theorem bl_no {a b : List UInt8} (h : ¬ a < b) : Op.bytesLess (str a).toList (str b).toList = false := by rw [bl_eq]; exact decide_eq_false h
theorem FRow.cases {B : Nat} {w : World} {ao : Option Addr} {cap : Nat} {E : List Ent} (h : FRow B w (.slice ao E.length cap) E) : (ao = none ∧ cap = 0 ∧ E = []) ∨ ∃ gr, ao = some ⟨gr, 0, none⟩ := by
  rcases h.2 with ⟨he, h0⟩ | ⟨g, c, cur, he, _⟩
  · injection he with e1 e2 e3; exact .inl ⟨e1, e3, List.eq_nil_of_length_eq_zero h0⟩
  · injection he with e1 e2 e3; exact .inr ⟨g, e1⟩
theorem ins_cut {E : List Ent} (hs : Srt Ent.nm E) {f : Ent} (hn : ∀ y ∈ E, y.nm ≠ f.nm) {k : Nat} (hk : k ≤ E.length) (h1 : ∀ j (hj : j < E.length), j < k → (E[j]'hj).nm < f.nm) (h2 : ∀ hj : k < E.length, ¬ (E[k]'hj).nm < f.nm) : insK Ent.nm f E = E.take k ++ f :: E.drop k := by
  conv => lhs; rw [← List.take_append_drop k E]
  refine insK_at f _ _ (fun y hy => ?_) (fun y hy => ?_)
  · obtain ⟨j, hj, rfl⟩ := List.getElem_of_mem hy
    rw [List.getElem_take]
    rw [List.length_take] at hj
    exact h1 j (by omega) (by omega)
  · obtain ⟨j, hj, rfl⟩ := List.getElem_of_mem hy
    rw [List.getElem_drop]
    rw [List.length_drop] at hj
    have hk2 : k < E.length := by omega
    have h3 := (nm_total (hn _ (List.getElem_mem hk2))).resolve_left (h2 hk2)
    by_cases h0 : j = 0
    · subst h0; exact h3
    · exact nm_trans h3 (List.pairwise_iff_getElem.1 hs k (k + j) hk2 (by omega) (by omega))
set_option maxHeartbeats 1000000 in
theorem put2_c (f : Ent) (h : RkC S w g q ao cap E) (hS : ∀ x, w.heap.size ≤ x → S x) (hn : ∀ y ∈ E, y.nm ≠ f.nm) (hG : DGood q (insK Ent.nm f E)) :
    Calls Tryz.prog 88 #[.pointer (some ⟨g, 0, none⟩), .agg #[.string (str f.nm), .string (str f.bs), .int .i64 (f.su : Int)]] w fun R w' => R = .returned (.tuple #[]) ∧ RkS S w' (.pointer (some ⟨g, 0, none⟩)) q (insK Ent.nm f E) ∧ Tu S w w' := by
  have hel := h.good.len
  have HC := Lib.hid (fun k => ins_cut h.good.srt hn (k := k))
  have hal := below_alloc w (.cells #[.string (str f.nm), .string (str f.bs), .int .i64 (f.su : Int)] 123)
  have HAL := Lib.hid hal
  have HCB := Lib.hid (Cells.made w 123 #[.string (str f.nm), .string (str f.bs), .int .i64 (f.su : Int)])
  have HK := Lib.hid (h.new hal)
  have HK0 := Lib.hid h
  have HG := Lib.hid hG
  clear h hal hn hG
  go_enter Tryz.func88, Tryz.ntmps88
  go_wp2
  generalize w.alloc (.cells #[.string (str f.nm), .string (str f.bs), .int .i64 (f.su : Int)] 123) = wb at *
  go_loopw [4] (fun i wr => ∃ k : Nat, k ≤ E.length ∧ i = .int .i64 k ∧ Hid (∀ j (hj : j < E.length), j < k → (E[j]'hj).nm < f.nm) ∧ Hid (Below wb.heap.size wb wr)) (fun i _ => E.length - (intOf i).toNat)
  case atStart => exact ⟨0, Nat.zero_le _, rfl, fun j _ h => by omega, Below.refl _ _⟩
  case round =>
    obtain ⟨k, hk, rfl, HN, HB⟩ := hrel
    have c1 := (HK.out.new HB.out).c1
    have b0 : wr.cell? ⟨w.heap.size, 0, none⟩ = some (.string (str f.nm)) := by rw [(HCB.out.below HB.out HCB.out.lt).cell]; rfl
    by_cases hlt : k < E.length
    · have i2 : (k : Int) < (E.length : Int) := by omega
      have i3 : decide ((k : Int) < (E.length : Int)) = true := decide_eq_true i2
      obtain ⟨gr, rfl, d0, d1, d2⟩ := (HK.out.new HB.out).row.at hlt
      by_cases hless : (E[k]'hlt).nm < f.nm
      · have e1 := bl_yes hless
        have HM : Hid (∀ j (hj : j < E.length), j < k + 1 → (E[j]'hj).nm < f.nm) := fun j hj hjk => by
          by_cases hjk2 : j < k
          · exact HN.out j hj hjk2
          · obtain rfl : j = k := by omega
            exact hless
        clear hless d1 d2
        generalize (E[k]'hlt).nm = nk at *
        go_upto_region 2 with fail
        go_quiet (fail)
        have HB2 := Lib.hid (HB.out.trans ((below_drewN (Below.refl wr.heap.size wr) nq).mono HB.out.size))
        go_wp2
        go_round
        case rel => exact ⟨k + 1, by omega, by go_num, HM.out, HB2.out⟩
        case measure => simp [intOf]; omega
      · have e1 := bl_no hless
        have HLS := Lib.hid hless
        clear hless d1 d2
        go_upto_region 2 with fail
        go_quiet (fail)
        clear d0 c1 b0 e1
        have HB2 := Lib.hid (HB.out.trans ((below_drewN (Below.refl wr.heap.size wr) nq).mono HB.out.size))
        generalize wr.drewN nq = wx at *
        have hE2 := HC.out k hk (fun j hj hjk => HN.out j hj hjk) (fun _ => HLS.out)
        have HKx := Lib.hid (HK.out.new HB2.out)
        have HBx : Hid (Below w.heap.size w wx) := HAL.out.trans (HB2.out.mono HAL.out.size)
        have hG2 := HG.out
        rw [hE2] at hG2

        have hcap : E.length ≤ cap := by
          rcases HKx.out.row.2 with ⟨he, _⟩ | ⟨_, _, _, he, _, _, hc, _⟩
          · cases he
          · injection he with e1 e2 e3; subst e3; exact hc
        obtain ⟨ao1, cap1, w1, hr1, hf1, hg1⟩ := app_fs (FRow.nil w.heap.size wx) (show (E.take k).length = k by rw [List.length_take]; omega) (show ([] : List Ent).length + k = k by simp) (HKx.out.row.head cap k) (by omega) HBx.out.size 119
        rw [List.nil_append] at hf1
        have hb1 := (Tu.fresh (S := fun _ => False) hg1).below (B := wx.heap.size) (fun _ _ h => h) (Nat.le_refl _)
        have hB1 := HBx.out.trans (hb1.mono HBx.out.size)
        have hba := below_alloc w1 (.cells #[.string (str f.nm), .string (str f.bs), .int .i64 (f.su : Int)] 123)
        have hcm := Cells.made w1 123 #[.string (str f.nm), .string (str f.bs), .int .i64 (f.su : Int)]
        have hsrc : SrcF (w1.alloc (.cells #[.string (str f.nm), .string (str f.bs), .int .i64 (f.su : Int)] 123)) (some ⟨w1.heap.size, 0, none⟩) 1 [f] := fun j u hu => by
          rw [Go.WideShapes.add_plain, Nat.zero_add, hcm.cell]
          simpa [fcs, fc] using hu
        obtain ⟨ao2, cap2, w2, hr2, hf2, hg2⟩ := app_fs (World.ownsRow.alloc hf1 _) (show [f].length = 1 from rfl) (show (E.take k).length + 1 = k + 1 by rw [List.length_take]; omega) hsrc (by omega) (Nat.le_trans hB1.size hba.size) 119
        have hB2 := below_own (hB1.trans (hba.mono hB1.size)) (World.ownsRow.alloc hf1 _) hg2 (Nat.le_trans hB1.size hba.size)
        have hk2 := HK0.out.tu (S' := fun _ => False) (w' := w2) ⟨hB2.os, hB2.tape, hB2.output, hB2.size, fun i hi _ => hB2.block i hi⟩ (fun _ _ _ h => h)
        obtain ⟨ao3, cap3, w3, hr3, hf3, hg3⟩ := app_fs hf2 (show (E.drop k).length = E.length - k by rw [List.length_drop]) (show (E.take k ++ [f]).length + (E.length - k) = E.length + 1 by rw [List.length_append, List.length_take, List.length_singleton]; omega) (hk2.row.tail (cap - k) k hcap) (by omega) hB2.size 119
        have hck : ¬ cap = k := by omega
        rw [if_neg hck] at hr3
        have hB3 := below_own hB2 hf2 hg3 hB2.size
        have hfz := (HK0.out.blk.below hB3 HK0.out.blk.lt).frozen 1
        have hE3 : insK Ent.nm f E = E.take k ++ [f] ++ E.drop k := by rw [hE2]; simp
        rw [← hE3] at hf3
        have HREL := Lib.hid (HK0.out.relay hS hf3 (by simp [insK_len]) hB3 HG.out)
        have c1 := HKx.out.c1
        have c2 := hk2.c1
        have c3 : w3.cell? ⟨g, 1, none⟩ = some (.slice (some ⟨gr, 0, none⟩) E.length cap) := by rw [(HK0.out.blk.below hB3 HK0.out.blk.lt).cell]; rfl
        have hbx := (HCB.out.below HB2.out HCB.out.lt).below hb1 (HCB.out.below HB2.out HCB.out.lt).lt
        have x0 : w1.cell? ⟨w.heap.size, 0, none⟩ = some (.string (str f.nm)) := by rw [hbx.cell]; rfl
        have x1 : w1.cell? ⟨w.heap.size, 1, none⟩ = some (.string (str f.bs)) := by rw [hbx.cell]; rfl
        have x2 : w1.cell? ⟨w.heap.size, 2, none⟩ = some (.int .i64 (f.su : Int)) := by rw [hbx.cell]; rfl
        have HR1 := Lib.hid hr1
        have HR2 := Lib.hid hr2
        have HR3 := Lib.hid hr3
        clear hr1 hr2 hr3 hf1 hf2 hf3 hg1 hg2 hg3 hb1 hB1 hB2 hB3 hba hcm hsrc hbx hk2 hE2 hE3 hG2
        go_upto_region 6 with (at_builtin; refine wpList_app rfl _ _ _ _ rfl _ _ _ rfl rfl HR1.out ?_)
        go_upto_region 7 with (at_builtin; refine wpList_app rfl _ _ _ _ rfl _ _ _ rfl rfl HR2.out ?_)
        go_wp2_with (at_builtin; refine wpList_app rfl _ _ _ _ rfl _ _ _ rfl rfl HR3.out ?_)
        all_goals (
          go_end0
          exact ⟨rfl, ⟨_, _, _, rfl, HREL.out.1⟩, HREL.out.2⟩)
    · have i2 : ¬ (k : Int) < (E.length : Int) := by omega
      have i3 : decide ((k : Int) < (E.length : Int)) = false := decide_eq_false i2
      go_upto_region 2 with fail
      go_quiet (fail)
      clear c1 b0
      have HB2 := Lib.hid (HB.out.trans ((below_drewN (Below.refl wr.heap.size wr) nq).mono HB.out.size))
      generalize wr.drewN nq = wx at *
      rcases HK.out.row.cases with ⟨rfl, rfl, rfl⟩ | ⟨gr, rfl⟩
      · obtain rfl : k = 0 := by simpa using hk
        have hE2 := HC.out 0 (Nat.zero_le _) (fun j hj _ => by cases hj) (fun h => by cases h)
        have HKx := Lib.hid (HK.out.new HB2.out)
        have HBx : Hid (Below w.heap.size w wx) := HAL.out.trans (HB2.out.mono HAL.out.size)
        have hG2 := HG.out
        rw [hE2] at hG2


        obtain ⟨ao1, cap1, w1, hr1, hf1, hg1⟩ := app_fs (FRow.nil w.heap.size wx) (D := []) (m := 0) rfl (N := 0) rfl (so := none) (sc := 0) ⟨rfl, rfl⟩ (by omega) HBx.out.size 119
        rw [List.nil_append] at hf1
        have hb1 := (Tu.fresh (S := fun _ => False) hg1).below (B := wx.heap.size) (fun _ _ h => h) (Nat.le_refl _)
        have hB1 := HBx.out.trans (hb1.mono HBx.out.size)
        have hba := below_alloc w1 (.cells #[.string (str f.nm), .string (str f.bs), .int .i64 (f.su : Int)] 123)
        have hcm := Cells.made w1 123 #[.string (str f.nm), .string (str f.bs), .int .i64 (f.su : Int)]
        have hsrc : SrcF (w1.alloc (.cells #[.string (str f.nm), .string (str f.bs), .int .i64 (f.su : Int)] 123)) (some ⟨w1.heap.size, 0, none⟩) 1 [f] := fun j u hu => by
          rw [Go.WideShapes.add_plain, Nat.zero_add, hcm.cell]
          simpa [fcs, fc] using hu
        obtain ⟨ao2, cap2, w2, hr2, hf2, hg2⟩ := app_fs (World.ownsRow.alloc hf1 _) (show [f].length = 1 from rfl) (N := 1) rfl hsrc (by omega) (Nat.le_trans hB1.size hba.size) 119
        have hB2 := below_own (hB1.trans (hba.mono hB1.size)) (World.ownsRow.alloc hf1 _) hg2 (Nat.le_trans hB1.size hba.size)
        have hk2 := HK0.out.tu (S' := fun _ => False) (w' := w2) ⟨hB2.os, hB2.tape, hB2.output, hB2.size, fun i hi _ => hB2.block i hi⟩ (fun _ _ _ h => h)
        obtain ⟨ao3, cap3, w3, hr3, hf3, hg3⟩ := app_fs hf2 (D := []) (m := 0) rfl (N := 1) rfl (so := none) (sc := 0) ⟨rfl, rfl⟩ (by omega) hB2.size 119

        have hB3 := below_own hB2 hf2 hg3 hB2.size
        have hfz := (HK0.out.blk.below hB3 HK0.out.blk.lt).frozen 1
        have hE3 : insK Ent.nm f [] = [] ++ [f] ++ [] := by rw [hE2]; simp
        rw [← hE3] at hf3
        have HREL := Lib.hid (HK0.out.relay hS hf3 (by simp [insK_len]) hB3 HG.out)
        have c1 := HKx.out.c1
        have c2 := hk2.c1
        have c3 : w3.cell? ⟨g, 1, none⟩ = some (.slice none 0 0) := by rw [(HK0.out.blk.below hB3 HK0.out.blk.lt).cell]; rfl
        have hbx := (HCB.out.below HB2.out HCB.out.lt).below hb1 (HCB.out.below HB2.out HCB.out.lt).lt
        have x0 : w1.cell? ⟨w.heap.size, 0, none⟩ = some (.string (str f.nm)) := by rw [hbx.cell]; rfl
        have x1 : w1.cell? ⟨w.heap.size, 1, none⟩ = some (.string (str f.bs)) := by rw [hbx.cell]; rfl
        have x2 : w1.cell? ⟨w.heap.size, 2, none⟩ = some (.int .i64 (f.su : Int)) := by rw [hbx.cell]; rfl
        have HR1 := Lib.hid hr1
        have HR2 := Lib.hid hr2
        have HR3 := Lib.hid hr3
        clear hr1 hr2 hr3 hf1 hf2 hf3 hg1 hg2 hg3 hb1 hB1 hB2 hB3 hba hcm hsrc hbx hk2 hE2 hE3 hG2
        go_upto_region 6 with (at_builtin; refine wpList_app rfl _ _ _ _ rfl _ _ _ rfl rfl HR1.out ?_)
        go_upto_region 7 with (at_builtin; refine wpList_app rfl _ _ _ _ rfl _ _ _ rfl rfl HR2.out ?_)
        go_wp2_with (at_builtin; refine wpList_app rfl _ _ _ _ rfl _ _ _ rfl rfl HR3.out ?_)
        all_goals (
          go_end0
          exact ⟨rfl, ⟨_, _, _, rfl, HREL.out.1⟩, HREL.out.2⟩)
      · by_cases hck : cap = k
        · skip
          have hE2 := HC.out k hk (fun j hj hjk => HN.out j hj hjk) (fun h => absurd h hlt)
          have HKx := Lib.hid (HK.out.new HB2.out)
          have HBx : Hid (Below w.heap.size w wx) := HAL.out.trans (HB2.out.mono HAL.out.size)
          have hG2 := HG.out
          rw [hE2] at hG2

          have hcap : E.length ≤ cap := by
            rcases HKx.out.row.2 with ⟨he, _⟩ | ⟨_, _, _, he, _, _, hc, _⟩
            · cases he
            · injection he with e1 e2 e3; subst e3; exact hc
          obtain ⟨ao1, cap1, w1, hr1, hf1, hg1⟩ := app_fs (FRow.nil w.heap.size wx) (show (E.take k).length = k by rw [List.length_take]; omega) (show ([] : List Ent).length + k = k by simp) (HKx.out.row.head cap k) (by omega) HBx.out.size 119
          rw [List.nil_append] at hf1
          have hb1 := (Tu.fresh (S := fun _ => False) hg1).below (B := wx.heap.size) (fun _ _ h => h) (Nat.le_refl _)
          have hB1 := HBx.out.trans (hb1.mono HBx.out.size)
          have hba := below_alloc w1 (.cells #[.string (str f.nm), .string (str f.bs), .int .i64 (f.su : Int)] 123)
          have hcm := Cells.made w1 123 #[.string (str f.nm), .string (str f.bs), .int .i64 (f.su : Int)]
          have hsrc : SrcF (w1.alloc (.cells #[.string (str f.nm), .string (str f.bs), .int .i64 (f.su : Int)] 123)) (some ⟨w1.heap.size, 0, none⟩) 1 [f] := fun j u hu => by
            rw [Go.WideShapes.add_plain, Nat.zero_add, hcm.cell]
            simpa [fcs, fc] using hu
          obtain ⟨ao2, cap2, w2, hr2, hf2, hg2⟩ := app_fs (World.ownsRow.alloc hf1 _) (show [f].length = 1 from rfl) (show (E.take k).length + 1 = k + 1 by rw [List.length_take]; omega) hsrc (by omega) (Nat.le_trans hB1.size hba.size) 119
          have hB2 := below_own (hB1.trans (hba.mono hB1.size)) (World.ownsRow.alloc hf1 _) hg2 (Nat.le_trans hB1.size hba.size)
          have hk2 := HK0.out.tu (S' := fun _ => False) (w' := w2) ⟨hB2.os, hB2.tape, hB2.output, hB2.size, fun i hi _ => hB2.block i hi⟩ (fun _ _ _ h => h)
          obtain ⟨ao3, cap3, w3, hr3, hf3, hg3⟩ := app_fs hf2 (show (E.drop k).length = E.length - k by rw [List.length_drop]) (show (E.take k ++ [f]).length + (E.length - k) = E.length + 1 by rw [List.length_append, List.length_take, List.length_singleton]; omega) (hk2.row.tail (cap - k) k hcap) (by omega) hB2.size 119
          rw [if_pos hck] at hr3
          have hB3 := below_own hB2 hf2 hg3 hB2.size
          have hfz := (HK0.out.blk.below hB3 HK0.out.blk.lt).frozen 1
          have hE3 : insK Ent.nm f E = E.take k ++ [f] ++ E.drop k := by rw [hE2]; simp
          rw [← hE3] at hf3
          have HREL := Lib.hid (HK0.out.relay hS hf3 (by simp [insK_len]) hB3 HG.out)
          have c1 := HKx.out.c1
          have c2 := hk2.c1
          have c3 : w3.cell? ⟨g, 1, none⟩ = some (.slice (some ⟨gr, 0, none⟩) E.length cap) := by rw [(HK0.out.blk.below hB3 HK0.out.blk.lt).cell]; rfl
          have hbx := (HCB.out.below HB2.out HCB.out.lt).below hb1 (HCB.out.below HB2.out HCB.out.lt).lt
          have x0 : w1.cell? ⟨w.heap.size, 0, none⟩ = some (.string (str f.nm)) := by rw [hbx.cell]; rfl
          have x1 : w1.cell? ⟨w.heap.size, 1, none⟩ = some (.string (str f.bs)) := by rw [hbx.cell]; rfl
          have x2 : w1.cell? ⟨w.heap.size, 2, none⟩ = some (.int .i64 (f.su : Int)) := by rw [hbx.cell]; rfl
          have HR1 := Lib.hid hr1
          have HR2 := Lib.hid hr2
          have HR3 := Lib.hid hr3
          clear hr1 hr2 hr3 hf1 hf2 hf3 hg1 hg2 hg3 hb1 hB1 hB2 hB3 hba hcm hsrc hbx hk2 hE2 hE3 hG2
          go_upto_region 6 with (at_builtin; refine wpList_app rfl _ _ _ _ rfl _ _ _ rfl rfl HR1.out ?_)
          go_upto_region 7 with (at_builtin; refine wpList_app rfl _ _ _ _ rfl _ _ _ rfl rfl HR2.out ?_)
          go_wp2_with (at_builtin; refine wpList_app rfl _ _ _ _ rfl _ _ _ rfl rfl HR3.out ?_)
          all_goals (
            go_end0
            exact ⟨rfl, ⟨_, _, _, rfl, HREL.out.1⟩, HREL.out.2⟩)
        · skip
          have hE2 := HC.out k hk (fun j hj hjk => HN.out j hj hjk) (fun h => absurd h hlt)
          have HKx := Lib.hid (HK.out.new HB2.out)
          have HBx : Hid (Below w.heap.size w wx) := HAL.out.trans (HB2.out.mono HAL.out.size)
          have hG2 := HG.out
          rw [hE2] at hG2

          have hcap : E.length ≤ cap := by
            rcases HKx.out.row.2 with ⟨he, _⟩ | ⟨_, _, _, he, _, _, hc, _⟩
            · cases he
            · injection he with e1 e2 e3; subst e3; exact hc
          obtain ⟨ao1, cap1, w1, hr1, hf1, hg1⟩ := app_fs (FRow.nil w.heap.size wx) (show (E.take k).length = k by rw [List.length_take]; omega) (show ([] : List Ent).length + k = k by simp) (HKx.out.row.head cap k) (by omega) HBx.out.size 119
          rw [List.nil_append] at hf1
          have hb1 := (Tu.fresh (S := fun _ => False) hg1).below (B := wx.heap.size) (fun _ _ h => h) (Nat.le_refl _)
          have hB1 := HBx.out.trans (hb1.mono HBx.out.size)
          have hba := below_alloc w1 (.cells #[.string (str f.nm), .string (str f.bs), .int .i64 (f.su : Int)] 123)
          have hcm := Cells.made w1 123 #[.string (str f.nm), .string (str f.bs), .int .i64 (f.su : Int)]
          have hsrc : SrcF (w1.alloc (.cells #[.string (str f.nm), .string (str f.bs), .int .i64 (f.su : Int)] 123)) (some ⟨w1.heap.size, 0, none⟩) 1 [f] := fun j u hu => by
            rw [Go.WideShapes.add_plain, Nat.zero_add, hcm.cell]
            simpa [fcs, fc] using hu
          obtain ⟨ao2, cap2, w2, hr2, hf2, hg2⟩ := app_fs (World.ownsRow.alloc hf1 _) (show [f].length = 1 from rfl) (show (E.take k).length + 1 = k + 1 by rw [List.length_take]; omega) hsrc (by omega) (Nat.le_trans hB1.size hba.size) 119
          have hB2 := below_own (hB1.trans (hba.mono hB1.size)) (World.ownsRow.alloc hf1 _) hg2 (Nat.le_trans hB1.size hba.size)
          have hk2 := HK0.out.tu (S' := fun _ => False) (w' := w2) ⟨hB2.os, hB2.tape, hB2.output, hB2.size, fun i hi _ => hB2.block i hi⟩ (fun _ _ _ h => h)
          obtain ⟨ao3, cap3, w3, hr3, hf3, hg3⟩ := app_fs hf2 (show (E.drop k).length = E.length - k by rw [List.length_drop]) (show (E.take k ++ [f]).length + (E.length - k) = E.length + 1 by rw [List.length_append, List.length_take, List.length_singleton]; omega) (hk2.row.tail (cap - k) k hcap) (by omega) hB2.size 119
          rw [if_neg hck] at hr3
          have hB3 := below_own hB2 hf2 hg3 hB2.size
          have hfz := (HK0.out.blk.below hB3 HK0.out.blk.lt).frozen 1
          have hE3 : insK Ent.nm f E = E.take k ++ [f] ++ E.drop k := by rw [hE2]; simp
          rw [← hE3] at hf3
          have HREL := Lib.hid (HK0.out.relay hS hf3 (by simp [insK_len]) hB3 HG.out)
          have c1 := HKx.out.c1
          have c2 := hk2.c1
          have c3 : w3.cell? ⟨g, 1, none⟩ = some (.slice (some ⟨gr, 0, none⟩) E.length cap) := by rw [(HK0.out.blk.below hB3 HK0.out.blk.lt).cell]; rfl
          have hbx := (HCB.out.below HB2.out HCB.out.lt).below hb1 (HCB.out.below HB2.out HCB.out.lt).lt
          have x0 : w1.cell? ⟨w.heap.size, 0, none⟩ = some (.string (str f.nm)) := by rw [hbx.cell]; rfl
          have x1 : w1.cell? ⟨w.heap.size, 1, none⟩ = some (.string (str f.bs)) := by rw [hbx.cell]; rfl
          have x2 : w1.cell? ⟨w.heap.size, 2, none⟩ = some (.int .i64 (f.su : Int)) := by rw [hbx.cell]; rfl
          have HR1 := Lib.hid hr1
          have HR2 := Lib.hid hr2
          have HR3 := Lib.hid hr3
          clear hr1 hr2 hr3 hf1 hf2 hf3 hg1 hg2 hg3 hb1 hB1 hB2 hB3 hba hcm hsrc hbx hk2 hE2 hE3 hG2
          go_upto_region 6 with (at_builtin; refine wpList_app rfl _ _ _ _ rfl _ _ _ rfl rfl HR1.out ?_)
          go_upto_region 7 with (at_builtin; refine wpList_app rfl _ _ _ _ rfl _ _ _ rfl rfl HR2.out ?_)
          go_wp2_with (at_builtin; refine wpList_app rfl _ _ _ _ rfl _ _ _ rfl rfl HR3.out ?_)
          all_goals (
            go_end0
            exact ⟨rfl, ⟨_, _, _, rfl, HREL.out.1⟩, HREL.out.2⟩)
end
end Go.Proofs.YtacgmadgkmcmoaaGreatDoor
/- The document's disk: New, Create, Remove, Rename. -/
namespace Go.Proofs.YtacgmadgkmcmoaaGreatDoor
open Go.RowKit Go.Shelf Go.Deep
set_option linter.unusedVariables false
set_option linter.unusedSimpArgs false
set_option maxRecDepth 100000

theorem del_cut {E : List Ent} (hs : Srt Ent.nm E) {j : Nat} (hj : j < E.length) {n : List UInt8} (hn : (E[j]'hj).nm = n) : delK Ent.nm n E = E.take j ++ E.drop (j + 1) := by
  have hp := List.pairwise_iff_getElem.1 hs
  have h1 : delK Ent.nm n (E.take j) = E.take j := List.filter_eq_self.2 fun x hx => by
    obtain ⟨i, hi, rfl⟩ := List.getElem_of_mem hx
    rw [List.length_take] at hi
    have := hp i j (by omega) hj (by omega)
    rw [hn] at this
    rw [List.getElem_take]
    simpa using nm_lt_ne this
  have h2 : delK Ent.nm n (E.drop (j + 1)) = E.drop (j + 1) := List.filter_eq_self.2 fun x hx => by
    obtain ⟨i, hi, rfl⟩ := List.getElem_of_mem hx
    rw [List.length_drop] at hi
    have := hp j (j + 1 + i) hj (by omega) (by omega)
    rw [hn] at this
    rw [List.getElem_drop]
    simpa using (nm_lt_ne this).symm
  have hE : E = E.take j ++ (E[j]'hj) :: E.drop (j + 1) := by rw [List.getElem_cons_drop, List.take_append_drop]
  conv => lhs; rw [hE]
  unfold delK at h1 h2 ⊢
  rw [List.filter_append, List.filter_cons, h1, h2]
  simp [hn]
theorem RkS.of {S : Nat → Prop} {w : World} {g q : Nat} {E : List Ent} (h : RkS S w (.pointer (some ⟨g, 0, none⟩)) q E) : ∃ ao cap, RkC S w g q ao cap E := by
  obtain ⟨g', ao, cap, he, h⟩ := h
  injection he with he
  injection he with he
  injection he with he
  subst he
  exact ⟨ao, cap, h⟩
def RNewPost (n : Int) (w : World) (R : Ending) (w' : World) : Prop := Below w.heap.size w w' ∧
  ((1 ≤ n ∧ n ≤ 1048576 ∧ ∃ v, R = .returned v ∧ RkS (fun x => w.heap.size ≤ x) w' v n.toNat []) ∨ ((n < 1 ∨ 1048576 < n) ∧ R = .returned (.pointer none)))
theorem rnew_c (n : Int) (w : World) : Calls Tryz.prog 39 #[.int .i64 n] w (RNewPost n w) := by
  by_cases h1 : n < 1
  · go_enter Tryz.func39, Tryz.ntmps39
    go_wp2
    go_ret
    exact ⟨Below.refl _ _, .inr ⟨.inl h1, rfl⟩⟩
  by_cases h2 : 1048576 < n
  · go_enter Tryz.func39, Tryz.ntmps39
    go_wp2
    go_ret
    exact ⟨Below.refl _ _, .inr ⟨.inr h2, rfl⟩⟩
  obtain ⟨k, rfl⟩ : ∃ k : Nat, n = (k : Int) := ⟨n.toNat, by omega⟩
  go_enter Tryz.func39, Tryz.ntmps39
  go_wp2
  go_ret
  refine ⟨below_alloc w _, .inl ⟨by omega, by omega, _, rfl, w.heap.size, none, 0, rfl, ⟨?_, FRow.nil _ _, Nat.le_refl _, by simp [Value.ownBlock], ?_⟩⟩⟩
  · exact Cells.made w 121 #[.int .i64 k, .slice none 0 0]
  · exact ⟨by simp; omega, by simp; omega, List.Pairwise.nil, by simp, by simp, by simp, by simp, by simp [used]⟩
section
variable {S : Nat → Prop} {w : World} {g q cap : Nat} {ao : Option Addr} {E : List Ent}
theorem fnd_ne {n : List UInt8} (h : fnd n E = none) : ∀ y ∈ E, y.nm ≠ n := fun y hy => by simpa using List.find?_eq_none.1 h y hy
theorem eCreate_rd (E : List Ent) (n : List UInt8) : eCreate E n = if isNm n then (match fnd n E with | some _ => 6 | none => if 64 ≤ E.length then 7 else 0) else 2 := rfl
theorem aCreate_no {n : List UInt8} (h : eCreate E n ≠ 0) : aCreate E n = E := by unfold aCreate; rw [if_neg h]
set_option maxHeartbeats 1000000 in
theorem rcreate_c (h : RkC S w g q ao cap E) (hS : ∀ x, w.heap.size ≤ x → S x) (n : List UInt8) (hn : n.length ≤ maxLen) :
    Calls Tryz.prog 41 #[.pointer (some ⟨g, 0, none⟩), .string (str n)] w fun R w' => R = .returned (.int .i64 (eCreate E n)) ∧ RkS S w' (.pointer (some ⟨g, 0, none⟩)) q (aCreate E n) ∧ Tu S w w' := by
  have hr := rname_c n w hn
  have HAt := Lib.hid (at_c h n)
  have HK := Lib.hid h
  have hel := h.good.len
  have c1 := h.c1
  have HG := Lib.hid (good_create h.good n)
  have HSS := Lib.hid hS
  have HE := Lib.hid (eCreate_rd E n)
  have HN := Lib.hid (@aCreate_no E n)
  clear h hS
  cases hq : isNm n with
  | false =>
    rw [hq] at hr
    have he : eCreate E n = 2 := by rw [HE.out, hq]; rfl
    have H2 := Lib.hid (show eCreate E n = 2 ∧ aCreate E n = E from ⟨he, HN.out (by rw [he]; decide)⟩)
    clear hq he
    go_enter Tryz.func41, Tryz.ntmps41
    go_wp2_with fail
    refine hr.mono ?_
    rintro R w1 ⟨rfl, rfl⟩
    go_wp2
    go_ret
    exact ⟨by rw [H2.out.1]; rfl, ⟨_, _, _, rfl, by rw [H2.out.2]; exact HK.out⟩, Tu.refl _ _⟩
  | true =>
    rw [hq] at hr
    have HQ := Lib.hid hq
    clear hq
    go_enter Tryz.func41, Tryz.ntmps41
    go_wp2_with fail
    refine hr.mono ?_
    rintro R w1 ⟨rfl, rfl⟩
    go_wp2_with fail
    refine HAt.out.mono ?_
    rintro R w1 ⟨rfl, ⟨hf, rfl⟩ | ⟨j, hj, hjn, _, hf, rfl⟩⟩
    · by_cases h64 : 64 ≤ E.length
      · have he : eCreate E n = 7 := by rw [HE.out, HQ.out, hf]; simp [h64]
        have H2 := Lib.hid (show eCreate E n = 7 ∧ aCreate E n = E from ⟨he, HN.out (by rw [he]; decide)⟩)
        have i1 : (64 : Int) ≤ (E.length : Int) := by omega
        clear hf he
        go_wp2
        go_ret
        exact ⟨by rw [H2.out.1]; rfl, ⟨_, _, _, rfl, by rw [H2.out.2]; exact HK.out⟩, Tu.refl _ _⟩
      · have he : eCreate E n = 0 := by rw [HE.out, HQ.out, hf]; simp [h64]
        have ha : aCreate E n = insK Ent.nm ⟨n, [], 0⟩ E := by unfold aCreate; rw [if_pos he]
        have H2 := Lib.hid (show eCreate E n = 0 ∧ aCreate E n = insK Ent.nm ⟨n, [], 0⟩ E from ⟨he, ha⟩)
        have i1 : ¬ (64 : Int) ≤ (E.length : Int) := by omega
        have HP := Lib.hid (put2_c ⟨n, [], 0⟩ HK.out HSS.out (fnd_ne hf) (by rw [← ha]; exact HG.out))
        clear hf he ha
        go_wp2_with fail
        refine HP.out.mono ?_
        rintro R w2 ⟨rfl, h2, ht⟩
        have HR2 := Lib.hid h2
        have HT2 := Lib.hid ht
        clear h2 ht
        go_wp2
        go_ret
        exact ⟨by rw [H2.out.1]; rfl, by rw [H2.out.2]; exact HR2.out, HT2.out⟩
    · have he : eCreate E n = 6 := by rw [HE.out, HQ.out, hf]; rfl
      have H2 := Lib.hid (show eCreate E n = 6 ∧ aCreate E n = E from ⟨he, HN.out (by rw [he]; decide)⟩)
      have i1 : (0 : Int) ≤ (j : Int) := by omega
      clear hf he hjn
      go_wp2
      go_ret
      exact ⟨by rw [H2.out.1]; rfl, ⟨_, _, _, rfl, by rw [H2.out.2]; exact HK.out⟩, Tu.refl _ _⟩
theorem rremove_c (h : RkC S w g q ao cap E) (hS : ∀ x, w.heap.size ≤ x → S x) (n : List UInt8) (hn : n.length ≤ maxLen) :
    Calls Tryz.prog 110 #[.pointer (some ⟨g, 0, none⟩), .string (str n)] w fun R w' => R = .returned (.int .i64 (eFind E n)) ∧ RkS S w' (.pointer (some ⟨g, 0, none⟩)) q (aRemove E n) ∧ Tu S w w' := by
  have hl := look2_c h n hn
  have HK := Lib.hid h
  have HSS := Lib.hid hS
  have HF : Hid (eFind E n = if isNm n then (match fnd n E with | some _ => 0 | none => 5) else 2) := rfl
  have HA : Hid (aRemove E n = if isNm n then delK Ent.nm n E else E) := rfl
  clear h hS
  go_enter Tryz.func110, Tryz.ntmps110
  go_wp2_with fail
  refine hl.mono ?_
  rintro R w1 ⟨rfl, ⟨h1, rfl⟩ | ⟨h1, h2, rfl⟩ | ⟨j, hj, h1, h2, h3, rfl⟩⟩
  · have H1 := Lib.hid h1
    clear h1
    go_wp2
    go_ret
    exact ⟨by rw [HF.out, H1.out]; rfl, ⟨_, _, _, rfl, by rw [HA.out, H1.out]; exact HK.out⟩, Tu.refl _ _⟩
  · have H1 := Lib.hid h1
    have H2 := Lib.hid h2
    clear h1 h2
    go_wp2
    go_ret
    exact ⟨by rw [HF.out, H1.out, H2.out]; rfl, ⟨_, _, _, rfl, by rw [HA.out, H1.out, delK_none H2.out]; exact HK.out⟩, Tu.refl _ _⟩
  · have hd := del_cut HK.out.good.srt hj h2
    have HP := Lib.hid (edrop_c HK.out HSS.out hj (by rw [← hd]; exact good_del HK.out.good n))
    rw [← hd] at HP
    have HE : Hid (aRemove E n = delK Ent.nm n E) := by show _ = _; rw [HA.out, h1]; rfl
    have HFF : Hid (eFind E n = 0) := by show _ = _; rw [HF.out, h1, h3]; rfl
    clear h1 h2 h3 hd
    go_wp2_with fail
    refine HP.out.mono ?_
    rintro R w2 ⟨rfl, h2, ht⟩
    have HR2 := Lib.hid h2
    have HT2 := Lib.hid ht
    clear h2 ht
    go_wp2
    go_ret
    exact ⟨by rw [HFF.out]; rfl, by rw [HE.out]; exact HR2.out, HT2.out⟩
end
end Go.Proofs.YtacgmadgkmcmoaaGreatDoor
/- The document's disk: Rename. -/
namespace Go.Proofs.YtacgmadgkmcmoaaGreatDoor
open Go.RowKit Go.Shelf Go.Deep
set_option linter.unusedVariables false
set_option linter.unusedSimpArgs false
set_option maxRecDepth 100000

section
variable {S : Nat → Prop} {w : World} {g q cap : Nat} {ao : Option Addr} {E : List Ent}
theorem del_twice (n : List UInt8) (E : List Ent) : delK Ent.nm n (delK Ent.nm n E) = delK Ent.nm n E := by unfold delK; rw [List.filter_filter]; simp
theorem ins_back (hs : Srt Ent.nm E) {j : Nat} (hj : j < E.length) {n : List UInt8} (hn : (E[j]'hj).nm = n) : insK Ent.nm ⟨n, (E[j]'hj).bs, (E[j]'hj).su⟩ (delK Ent.nm n (delK Ent.nm n E)) = E := by
  have hp := List.pairwise_iff_getElem.1 hs
  rw [del_twice, del_cut hs hj hn, insK_at _ _ _ (fun y hy => ?_) (fun y hy => ?_)]
  · have e : (⟨n, (E[j]'hj).bs, (E[j]'hj).su⟩ : Ent) = E[j]'hj := by rw [← hn]
    rw [e, List.getElem_cons_drop, List.take_append_drop]
  · obtain ⟨i, hi, rfl⟩ := List.getElem_of_mem hy
    rw [List.length_take] at hi
    have := hp i j (by omega) hj (by omega)
    rw [hn] at this
    rw [List.getElem_take]
    exact this
  · obtain ⟨i, hi, rfl⟩ := List.getElem_of_mem hy
    rw [List.length_drop] at hi
    have := hp j (j + 1 + i) hj (by omega) (by omega)
    rw [hn] at this
    rw [List.getElem_drop]
    exact this
theorem eRename_rd (E : List Ent) (a b : List UInt8) : eRename E a b = if isNm a && isNm b then (match fnd a E with | some _ => 0 | none => 5) else 2 := rfl
theorem aRename_rd (E : List Ent) (a b : List UInt8) : aRename E a b = if isNm a && isNm b then (match fnd a E with | some f => insK Ent.nm ⟨b, f.bs, f.su⟩ (delK Ent.nm b (delK Ent.nm a E)) | none => E) else E := rfl
set_option maxHeartbeats 2000000 in
theorem rrename_c (h : RkC S w g q ao cap E) (hS : ∀ x, w.heap.size ≤ x → S x) (a b : List UInt8) (ha : a.length ≤ maxLen) (hb : b.length ≤ maxLen) :
    Calls Tryz.prog 109 #[.pointer (some ⟨g, 0, none⟩), .string (str a), .string (str b)] w fun R w' => R = .returned (.int .i64 (eRename E a b)) ∧ RkS S w' (.pointer (some ⟨g, 0, none⟩)) q (aRename E a b) ∧ Tu S w w' := by
  have hra := rname_c a w ha
  have hrb := rname_c b w hb
  have HAt := Lib.hid (at_c h a)
  have HK := Lib.hid h
  have HG := Lib.hid (good_rename h.good a b)
  have HSS := Lib.hid hS
  have HE := Lib.hid (eRename_rd E a b)
  have HA := Lib.hid (aRename_rd E a b)
  clear h hS
  by_cases hqa : isNm a = true
  rotate_left
  · have hqa : isNm a = false := by simpa using hqa
    have H2 := Lib.hid (show eRename E a b = 2 ∧ aRename E a b = E from ⟨by rw [HE.out, hqa]; rfl, by rw [HA.out, hqa]; rfl⟩)
    rw [hqa] at hra
    clear hqa
    go_enter Tryz.func109, Tryz.ntmps109
    go_wp2_with fail
    refine hra.mono ?_
    rintro R w1 ⟨rfl, rfl⟩
    go_wp2
    go_ret
    exact ⟨by rw [H2.out.1]; rfl, ⟨_, _, _, rfl, by rw [H2.out.2]; exact HK.out⟩, Tu.refl _ _⟩
  by_cases hqb : isNm b = true
  rotate_left
  · have hqb : isNm b = false := by simpa using hqb
    have H2 := Lib.hid (show eRename E a b = 2 ∧ aRename E a b = E from ⟨by rw [HE.out, hqa, hqb]; rfl, by rw [HA.out, hqa, hqb]; rfl⟩)
    rw [hqa] at hra
    rw [hqb] at hrb
    clear hqa hqb
    go_enter Tryz.func109, Tryz.ntmps109
    go_wp2_with fail
    refine hra.mono ?_
    rintro R w1 ⟨rfl, rfl⟩
    go_wp2_with fail
    refine hrb.mono ?_
    rintro R w1 ⟨rfl, rfl⟩
    go_wp2
    go_ret
    exact ⟨by rw [H2.out.1]; rfl, ⟨_, _, _, rfl, by rw [H2.out.2]; exact HK.out⟩, Tu.refl _ _⟩
  rw [hqa] at hra
  rw [hqb] at hrb
  have HQ := Lib.hid (show (isNm a && isNm b) = true by rw [hqa, hqb]; rfl)
  clear hqa hqb
  go_enter Tryz.func109, Tryz.ntmps109
  go_wp2_with fail
  refine hra.mono ?_
  rintro R w1 ⟨rfl, rfl⟩
  go_wp2_with fail
  refine hrb.mono ?_
  rintro R w1 ⟨rfl, rfl⟩
  go_wp2_with fail
  refine HAt.out.mono ?_
  rintro R w1 ⟨rfl, ⟨hf, rfl⟩ | ⟨j, hj, hjn, _, hf, rfl⟩⟩
  · have H2 := Lib.hid (show eRename E a b = 5 ∧ aRename E a b = E from ⟨by rw [HE.out, HQ.out, hf]; rfl, by rw [HA.out, HQ.out, hf]; rfl⟩)
    clear hf
    go_wp2
    go_ret
    exact ⟨by rw [H2.out.1]; rfl, ⟨_, _, _, rfl, by rw [H2.out.2]; exact HK.out⟩, Tu.refl _ _⟩
  have H1 := Lib.hid (show eRename E a b = 0 ∧ aRename E a b = insK Ent.nm ⟨b, (E[j]'hj).bs, (E[j]'hj).su⟩ (delK Ent.nm b (delK Ent.nm a E)) from ⟨by rw [HE.out, HQ.out, hf]; rfl, by rw [HA.out, HQ.out, hf]; rfl⟩)
  have i1 : ¬ (j : Int) < 0 := by omega
  by_cases hab : a = b
  · subst hab
    have q1 := str_yes2 a
    have H2 := Lib.hid (show aRename E a a = E by rw [H1.out.2]; exact ins_back HK.out.good.srt hj hjn)
    clear hf hjn
    go_wp2
    go_ret
    exact ⟨by rw [H1.out.1]; rfl, ⟨_, _, _, rfl, by rw [H2.out]; exact HK.out⟩, Tu.refl _ _⟩
  have q1 := str_no2 hab
  obtain ⟨gr, rfl, d0, d1, d2⟩ := HK.out.row.at hj
  have c1 := HK.out.c1
  have i2 : (j : Int) < (E.length : Int) := by omega
  have hdl := del_cut HK.out.good.srt hj hjn
  have HDL := Lib.hid hdl
  generalize (E[j]'hj).bs = fb at *
  generalize (E[j]'hj).su = fs at *
  rw [hjn] at d0
  have hal := below_alloc w (.cells #[.string (str a), .string (str fb), .int .i64 (fs : Int)] 123)
  have HAL := Lib.hid hal
  have HCB := Lib.hid (Cells.made w 123 #[.string (str a), .string (str fb), .int .i64 (fs : Int)])
  have HKB : Hid (RkC (fun x => S x ∧ x ≠ w.heap.size) (w.alloc (.cells #[.string (str a), .string (str fb), .int .i64 (fs : Int)] 123)) g q (some ⟨gr, 0, none⟩) cap E) :=
    ⟨(HK.out.new hal).blk, (HK.out.new hal).row, ⟨HK.out.sg, by have := HK.out.blk.lt; omega⟩, fun x hx => ⟨HK.out.sr x hx, by have := (HK.out.row.lt x hx).2; omega⟩, HK.out.good⟩
  have HSB : Hid (∀ x, (w.alloc (.cells #[.string (str a), .string (str fb), .int .i64 (fs : Int)] 123)).heap.size ≤ x → S x ∧ x ≠ w.heap.size) := fun x hx => by
    rw [World.size_alloc] at hx
    exact ⟨HSS.out x (by omega), by omega⟩
  clear hf hjn hal
  go_upto_region 11 with fail
  generalize w.alloc (.cells #[.string (str a), .string (str fb), .int .i64 (fs : Int)] 123) = wb at *
  have hP := edrop_c HKB.out HSB.out hj (by rw [← hdl]; exact good_del HK.out.good a)
  rw [← hdl] at hP
  have HP := Lib.hid hP
  clear hP hdl d0 d1 d2 c1
  go_wp2_with fail
  refine HP.out.mono ?_
  rintro R w2 ⟨rfl, h2, ht2⟩
  obtain ⟨ao2, cap2, hr2⟩ := h2.of
  have HR2 := Lib.hid hr2
  have HT2 := Lib.hid ht2
  clear h2 ht2 hr2 HP
  go_wp2_with fail
  refine (at_c HR2.out b).mono ?_
  rintro R w3 ⟨rfl, ⟨hf2, rfl⟩ | ⟨k, hk, hkn, _, hf2, rfl⟩⟩
  · have HR3 := HR2
    have HT3 := HT2
    rw [← delK_none hf2] at HR3
    clear HR2 HT2 hf2
    generalize hw3 : w2 = w3 at *
    have HBC := HCB.out.tu HT3.out (fun h => h.2 rfl)
    have hfz := HBC.frozen 0
    have b0 : w3.cell? ⟨w.heap.size, 0, none⟩ = some (.string (str a)) := by rw [HBC.cell]; rfl
    have hc4 := HBC.set 0 (.string (str b))
    have hk4 := HR3.out.tu (Tu.grown (grown_set w3 w.heap.size 0 (.string (str b)))) (fun x _ hx e => hx.2 (by simpa using e))
    have hs4 : wb.heap.size ≤ (w3.setCell ⟨w.heap.size, 0, none⟩ (.string (str b))).heap.size := by have := HT3.out.size; simp [World.setCell]; omega
    have HP4 := Lib.hid (put2_c ⟨b, fb, fs⟩ hk4 (fun x hx => HSB.out x (Nat.le_trans hs4 hx)) (fun y hy => (delK_mem.1 hy).2) (by have := HG.out; rw [H1.out.2] at this; exact this))
    have b1 : (w3.setCell ⟨w.heap.size, 0, none⟩ (.string (str b))).cell? ⟨w.heap.size, 0, none⟩ = some (.string (str b)) := by rw [hc4.cell]; rfl
    have b2 : (w3.setCell ⟨w.heap.size, 0, none⟩ (.string (str b))).cell? ⟨w.heap.size, 1, none⟩ = some (.string (str fb)) := by rw [hc4.cell]; rfl
    have b3 : (w3.setCell ⟨w.heap.size, 0, none⟩ (.string (str b))).cell? ⟨w.heap.size, 2, none⟩ = some (.int .i64 (fs : Int)) := by rw [hc4.cell]; rfl
    have HT4 : Hid (Tu S w (w3.setCell ⟨w.heap.size, 0, none⟩ (.string (str b)))) := ((Tu.new (S := S) HAL.out).trans HT3.out (fun _ _ h => h.1)).trans (Tu.grown (grown_set w3 w.heap.size 0 (.string (str b)))) (fun x hx e => absurd (show x = w.heap.size by simpa using e) (by omega))
    clear hk4 hs4 hc4 HBC
    go_upto_region 16 with fail
    clear b0 hfz
    generalize w3.setCell ⟨w.heap.size, 0, none⟩ (.string (str b)) = w4 at *
    go_wp2_with fail
    refine HP4.out.mono ?_
    rintro R w5 ⟨rfl, h5, ht5⟩
    have HR5 := Lib.hid h5
    have HT5 := Lib.hid ht5
    clear h5 ht5
    go_wp2
    go_ret
    exact ⟨by rw [H1.out.1]; rfl, by rw [H1.out.2]; exact HR5.out.mono (fun _ _ h => h.1), HT4.out.trans HT5.out (fun _ _ h => h.1)⟩
  · have i3 : (0 : Int) ≤ (k : Int) := by omega
    have hd2 := del_cut HR2.out.good.srt hk hkn
    have hP := edrop_c HR2.out (fun x hx => HSB.out x (Nat.le_trans HT2.out.size hx)) hk (by rw [← hd2]; exact good_del HR2.out.good b)
    rw [← hd2] at hP
    have HP := Lib.hid hP
    clear hP hd2 hkn hf2
    go_wp2_with fail
    refine HP.out.mono ?_
    rintro R w3 ⟨rfl, h3, ht3⟩
    obtain ⟨ao3, cap3, hr3⟩ := h3.of
    have HR3 := Lib.hid hr3
    have HT3 := Lib.hid (HT2.out.trans ht3 (fun _ _ h => h))
    clear h3 ht3 hr3 HP HR2 HT2
    have HBC := HCB.out.tu HT3.out (fun h => h.2 rfl)
    have hfz := HBC.frozen 0
    have b0 : w3.cell? ⟨w.heap.size, 0, none⟩ = some (.string (str a)) := by rw [HBC.cell]; rfl
    have hc4 := HBC.set 0 (.string (str b))
    have hk4 := HR3.out.tu (Tu.grown (grown_set w3 w.heap.size 0 (.string (str b)))) (fun x _ hx e => hx.2 (by simpa using e))
    have hs4 : wb.heap.size ≤ (w3.setCell ⟨w.heap.size, 0, none⟩ (.string (str b))).heap.size := by have := HT3.out.size; simp [World.setCell]; omega
    have HP4 := Lib.hid (put2_c ⟨b, fb, fs⟩ hk4 (fun x hx => HSB.out x (Nat.le_trans hs4 hx)) (fun y hy => (delK_mem.1 hy).2) (by have := HG.out; rw [H1.out.2] at this; exact this))
    have b1 : (w3.setCell ⟨w.heap.size, 0, none⟩ (.string (str b))).cell? ⟨w.heap.size, 0, none⟩ = some (.string (str b)) := by rw [hc4.cell]; rfl
    have b2 : (w3.setCell ⟨w.heap.size, 0, none⟩ (.string (str b))).cell? ⟨w.heap.size, 1, none⟩ = some (.string (str fb)) := by rw [hc4.cell]; rfl
    have b3 : (w3.setCell ⟨w.heap.size, 0, none⟩ (.string (str b))).cell? ⟨w.heap.size, 2, none⟩ = some (.int .i64 (fs : Int)) := by rw [hc4.cell]; rfl
    have HT4 : Hid (Tu S w (w3.setCell ⟨w.heap.size, 0, none⟩ (.string (str b)))) := ((Tu.new (S := S) HAL.out).trans HT3.out (fun _ _ h => h.1)).trans (Tu.grown (grown_set w3 w.heap.size 0 (.string (str b)))) (fun x hx e => absurd (show x = w.heap.size by simpa using e) (by omega))
    clear hk4 hs4 hc4 HBC
    go_upto_region 16 with fail
    clear b0 hfz
    generalize w3.setCell ⟨w.heap.size, 0, none⟩ (.string (str b)) = w4 at *
    go_wp2_with fail
    refine HP4.out.mono ?_
    rintro R w5 ⟨rfl, h5, ht5⟩
    have HR5 := Lib.hid h5
    have HT5 := Lib.hid ht5
    clear h5 ht5
    go_wp2
    go_ret
    exact ⟨by rw [H1.out.1]; rfl, by rw [H1.out.2]; exact HR5.out.mono (fun _ _ h => h.1), HT4.out.trans HT5.out (fun _ _ h => h.1)⟩
end
end Go.Proofs.YtacgmadgkmcmoaaGreatDoor
/- The document's Same; Copy. -/
namespace Go.Proofs.YtacgmadgkmcmoaaGreatDoor
open Go.RowKit Go.Shelf Go.Deep
set_option linter.unusedVariables false
set_option linter.unusedSimpArgs false
set_option maxRecDepth 100000

/-- Two lists of the same names. -/
theorem rsame_c {w : World} {B C : Nat} {va vb : Value} {l : List (List UInt8)} (ha : Lst w B va l) (hb : Lst w C vb l) (hl : l.length ≤ 1000) :
    Calls Tryz.prog 16 #[va, vb] w fun R w' => R = .returned (.bool true) ∧ Below w.heap.size w w' := by
  obtain ⟨ao, ac, rfl⟩ := ha.sl
  obtain ⟨bo, bc, rfl⟩ := hb.sl
  have HA := Lib.hid ha
  have HB := Lib.hid hb
  clear ha hb
  go_enter Tryz.func16, Tryz.ntmps16
  go_wp2
  go_loopw [5] (fun i wr => ∃ k : Nat, k ≤ l.length ∧ i = .int .i64 k ∧ Hid (Below w.heap.size w wr)) (fun i _ => l.length - (intOf i).toNat)
  case atStart => exact ⟨0, Nat.zero_le _, rfl, Below.refl _ _⟩
  case round =>
    obtain ⟨k, hk, rfl, HW⟩ := hrel
    by_cases hlt : k < l.length
    · have i2 : (k : Int) < (l.length : Int) := by omega
      obtain ⟨ga, ca, ea, xa⟩ := (HA.out.new HW.out).at hlt
      obtain ⟨gb, cb, eb, xb⟩ := (HB.out.new HW.out).at hlt
      injection ea with ea1 ea2 ea3
      injection eb with eb1 eb2 eb3
      subst ea1 eb1
      rw [Nat.zero_add] at xa xb
      have q1 := str_yes2 (l[k]'hlt)
      clear ea2 ea3 eb2 eb3
      generalize l[k]'hlt = n at *
      go_upto_region 6 with fail
      go_quiet (fail)
      have HW2 := Lib.hid (HW.out.trans ((below_drewN (Below.refl wr.heap.size wr) nq).mono HW.out.size))
      clear xa xb
      generalize wr.drewN nq = wx at *
      go_wp2
      go_round
      case rel => exact ⟨k + 1, by omega, by go_num, HW2.out⟩
      case measure => simp [intOf]; omega
    · have hx : k = l.length := by omega
      have i2 : ¬ (k : Int) < (l.length : Int) := by omega
      have HX := Lib.hid hx
      clear hx hlt hk
      go_wp2
      go_ret
      exact ⟨rfl, HW.out⟩
section
variable {S : Nat → Prop} {w : World} {g q cap : Nat} {ao : Option Addr} {E : List Ent}
theorem RkC.src (h : RkC S w g q ao cap E) : SrcF w ao cap E := by
  rcases h.row.cases with ⟨rfl, rfl, rfl⟩ | ⟨gr, rfl⟩
  · exact ⟨rfl, rfl⟩
  · have := h.row.head cap E.length
    rw [List.take_length] at this
    exact this
/-- An append whose run is known, at a step of a drawn region. -/
theorem step_app {P : Program} {w w' : World} {ops : Array Oper} {o : Oper} {a : Act} {K : Act → World → Prop} {Q : Exit → Act → World → Prop} {X : Prop} (hgd : o.guard = none) (sl x : Operand) (t u ty : TypeId)
    (ho : o.op = .call { callee := .builtin .append, args := #[sl, x], argTypes := #[t, u] }) (hty : o.type = ty) (v y r : Value) (hs : a.eval sl = v) (hx : a.eval x = y) (hr : (Builtin.append_ #[t, u] ty #[v, y]).run P w = .ok r w')
    (h : K (a.put o.dst r) w') : if Region.wanted o (yielded ops a.tmps) = true then Oper.wp P o a w K Q else X := by
  subst hty
  have hw : Region.wanted o (yielded ops a.tmps) = true := by simp [Region.wanted, hgd]
  rw [if_pos hw]
  unfold Oper.wp execOp
  simp only [ho, resolve, invoke, builtin, Sem.run_bind, Sem.run_pure, Result.andThen_ok, List.map_toArray, List.map_cons, List.map_nil, hs, hx, hr]
  exact h
end
end Go.Proofs.YtacgmadgkmcmoaaGreatDoor
/- The document's round. -/
namespace Go.Proofs.YtacgmadgkmcmoaaGreatDoor
open Go.RowKit Go.Shelf Go.Deep
set_option linter.unusedVariables false
set_option linter.unusedSimpArgs false
set_option maxRecDepth 100000

theorem kept_tmod2 (k : Int) (m : Nat) (hm : 0 < m) : (k.tmod (m : Int) < 0 ∧ k.tmod (m : Int) + (m : Int) = (kept k m : Nat)) ∨ (0 ≤ k.tmod (m : Int) ∧ k.tmod (m : Int) = (kept k m : Nat)) := by
  have h1 : 0 ≤ k % (m : Int) := Int.emod_nonneg _ (by omega)
  have h2 : k % (m : Int) < (m : Int) := Int.emod_lt_of_pos _ (by omega)
  have hk : ((kept k m : Nat) : Int) = k % (m : Int) := by unfold kept; omega
  rw [hk, Int.tmod_eq_emod]
  split
  · right; omega
  · rename_i h
    have h0 : k % (m : Int) ≠ 0 := fun e => h (.inr (Int.dvd_of_emod_eq_zero e))
    left
    simp only [Int.natAbs_natCast]
    omega
theorem kept_lt2 (k : Int) (m : Nat) (hm : 0 < m) : kept k m < m := by
  have h1 : 0 ≤ k % (m : Int) := Int.emod_nonneg _ (by omega)
  have h2 : k % (m : Int) < (m : Int) := Int.emod_lt_of_pos _ (by omega)
  unfold kept; omega
theorem round_c (k : Int) (m : Nat) (w : World) (hm : 0 < m) (hm2 : m ≤ 65537) :
    Calls Tryz.prog 120 #[.int .i64 k, .int .i64 (m : Int)] w fun R w' => R = .returned (.int .i64 (kept k m : Nat)) ∧ w' = w := by
  have hl := kept_lt2 k m hm
  have hi : ¬ (m : Int) = 0 := by omega
  have hi2 : (m : Int) ≠ -1 := by omega
  rcases kept_tmod2 k m hm with ⟨h1, h2⟩ | ⟨h1, h2⟩
  · generalize kept k m = u at *
    obtain ⟨t, ht⟩ : ∃ t, k.tmod (m : Int) = t := ⟨_, rfl⟩
    rw [ht] at h1 h2
    have h3 : IntKind.i64.wrap t = t := IntWalk.i64_in _ ⟨by omega, by omega⟩
    have h4 : IntKind.i64.wrap (t + (m : Int)) = (u : Int) := by rw [h2]; exact IntWalk.i64_in _ ⟨by omega, by omega⟩
    go_enter Tryz.func120, Tryz.ntmps120
    go_wp2
    go_ret
    exact ⟨rfl, rfl⟩
  · generalize kept k m = u at *
    have h3 : IntKind.i64.wrap (u : Int) = (u : Int) := IntWalk.i64_in _ ⟨by omega, by omega⟩
    go_enter Tryz.func120, Tryz.ntmps120
    go_wp2
    go_ret
    exact ⟨rfl, rfl⟩
end Go.Proofs.YtacgmadgkmcmoaaGreatDoor
/- The document's Crash. -/
namespace Go.Proofs.YtacgmadgkmcmoaaGreatDoor
open Go.RowKit Go.Shelf Go.Deep
set_option linter.unusedVariables false
set_option linter.unusedSimpArgs false
set_option maxRecDepth 100000

section
variable {S : Nat → Prop} {w : World} {g q cap : Nat} {ao : Option Addr} {E : List Ent}
/-- One round more, on the lists. -/
theorem tear_set {q k : Nat} {ks : List Int} {E F : List Ent} (hF : F = tears ks 0 (E.take k) ++ E.drop k) (hk : k < E.length) (hG : DGood q F) : ∃ hk' : k < F.length, F[k]'hk' = E[k]'hk ∧ F.length = E.length ∧
    F.set k (tearE (numAt ks k) (E[k]'hk)) = tears ks 0 (E.take (k + 1)) ++ E.drop (k + 1) ∧ DGood q (F.set k (tearE (numAt ks k) (E[k]'hk))) := by
  have htl : (tears ks 0 (E.take k)).length = k := by rw [tears_len, List.length_take]; omega
  have hfl : F.length = E.length := by rw [hF, List.length_append, htl, List.length_drop]; omega
  have hk' : k < F.length := by omega
  have hat : F[k]'hk' = E[k]'hk := by
    subst hF
    rw [List.getElem_append_right (by omega), List.getElem_drop]
    congr 1
    omega
  have hset : F.set k (tearE (numAt ks k) (E[k]'hk)) = tears ks 0 (E.take (k + 1)) ++ E.drop (k + 1) := by
    rw [← tears_step ks E k hk, List.set_eq_take_append_cons_drop, if_pos hk', hF]
    congr 1
    · rw [List.take_append_of_le_length (by omega), List.take_of_length_le (by omega)]
    · congr 1
      rw [List.drop_append, htl, List.drop_eq_nil_of_le (by omega), List.nil_append, List.drop_drop]
      congr 1
      omega
  refine ⟨hk', hat, hfl, hset, ?_⟩
  have hm := List.getElem_mem hk'
  have hs := hG.sure _ hm
  have hmo := hG.most _ hm
  have hl := tearE_len (f := E[k]'hk) (by rw [← hat]; exact hs) (numAt ks k)
  rw [hat] at hs hmo
  have h1 := good_set hG (n := (F[k]'hk').nm) (f := F[k]'hk') (g := tearE (numAt ks k) (E[k]'hk)) (fndK_of_mem hG.srt hm) (by rw [hat]; rfl) (by omega) (by omega) (by have := hG.use; rw [hat]; omega)
  rw [setE_set hG.srt hk' _ (by rw [hat]; rfl)] at h1
  exact h1
theorem FRow.set3 {B gr k : Nat} {F : List Ent} (h : FRow B w (.slice (some ⟨gr, 0, none⟩) F.length cap) F) (hk : k < F.length) (e' : Ent) :
    FRow B (((w.setCell ⟨gr, k * 3, none⟩ (.string (str e'.nm))).setCell ⟨gr, k * 3 + 1, none⟩ (.string (str e'.bs))).setCell ⟨gr, k * 3 + 2, none⟩ (.int .i64 (e'.su : Int))) (.slice (some ⟨gr, 0, none⟩) (F.set k e').length cap) (F.set k e') ∧
      Tu (fun x => x = gr) w (((w.setCell ⟨gr, k * 3, none⟩ (.string (str e'.nm))).setCell ⟨gr, k * 3 + 1, none⟩ (.string (str e'.bs))).setCell ⟨gr, k * 3 + 2, none⟩ (.int .i64 (e'.su : Int))) := by
  obtain ⟨h1, g1⟩ := h.set hk ⟨e'.nm, (F[k]'hk).bs, (F[k]'hk).su⟩ 0 (.string (str e'.nm)) (by decide) rfl
  obtain ⟨h2, g2⟩ := h1.set (k := k) (by rw [List.length_set]; exact hk) ⟨e'.nm, e'.bs, (F[k]'hk).su⟩ 1 (.string (str e'.bs)) (by decide) (by rw [List.getElem_set_self]; rfl)
  rw [List.set_set] at h2
  obtain ⟨h3, g3⟩ := h2.set (k := k) (by rw [List.length_set]; exact hk) e' 2 (.int .i64 (e'.su : Int)) (by decide) (by rw [List.getElem_set_self]; rfl)
  rw [List.set_set] at h3
  exact ⟨h3, ((Tu.grown g1).trans (Tu.grown g2) (fun _ _ h => h) |>.trans (Tu.grown g3) (fun _ _ h => h)).mono (fun x _ hx => by simpa using hx)⟩
theorem RkC.set3 {gr k : Nat} {F : List Ent} (h : RkC S w g q (some ⟨gr, 0, none⟩) cap F) (hk : k < F.length) (e' : Ent) (hG : DGood q (F.set k e')) :
    RkC S (((w.setCell ⟨gr, k * 3, none⟩ (.string (str e'.nm))).setCell ⟨gr, k * 3 + 1, none⟩ (.string (str e'.bs))).setCell ⟨gr, k * 3 + 2, none⟩ (.int .i64 (e'.su : Int))) g q (some ⟨gr, 0, none⟩) cap (F.set k e') ∧
      Tu S w (((w.setCell ⟨gr, k * 3, none⟩ (.string (str e'.nm))).setCell ⟨gr, k * 3 + 1, none⟩ (.string (str e'.bs))).setCell ⟨gr, k * 3 + 2, none⟩ (.int .i64 (e'.su : Int))) := by
  obtain ⟨h1, ht⟩ := h.row.set3 hk e'
  have hne : (Value.slice (some ⟨gr, 0, none⟩) F.length cap).ownBlock ≠ some g := row_unlike h.row h.blk (by decide)
  have hb := h.blk.tu ht (fun e => hne (by rw [e]; rfl))
  rw [show F.length = (F.set k e').length from (List.length_set ..).symm] at hb
  exact ⟨⟨hb, h1, h.sg, fun x hx => h.sr x hx, hG⟩, ht.mono fun x _ hx => h.sr x (by rw [hx]; rfl)⟩
set_option maxHeartbeats 2000000 in
theorem rcrash_c {ko : Option Addr} {ks : List Int} {kc : Nat} (h : RkC S w g q ao cap E) (hi : Ints w ko ks) (hkl : ks.length ≤ maxLen) (hkf : ∀ a, ko = some a → ks ≠ [] → ¬ S a.block) :
    Calls Tryz.prog 69 #[.pointer (some ⟨g, 0, none⟩), .slice ko ks.length kc] w fun R w' => R = .returned (.tuple #[]) ∧ RkS S w' (.pointer (some ⟨g, 0, none⟩)) q (aCrash ks E) ∧ Tu S w w' := by
  have hel := h.good.len
  simp only [maxLen] at hkl
  have HK := Lib.hid h
  have HI := Lib.hid hi
  have HKF := Lib.hid hkf
  clear h hi hkf
  obtain ⟨kn, hkn⟩ : ∃ kn, ks.length = kn := ⟨_, rfl⟩
  rw [hkn] at hkl ⊢
  have HKN := Lib.hid hkn
  clear hkn
  go_enter Tryz.func69, Tryz.ntmps69
  go_wp2
  go_loopw [4] (fun i wr => ∃ k : Nat, k ≤ E.length ∧ i = .int .i64 k ∧ Hid (∃ F, F = tears ks 0 (E.take k) ++ E.drop k ∧ RkC S wr g q ao cap F) ∧ Hid (Tu S w wr)) (fun i _ => E.length - (intOf i).toNat)
  case atStart => exact ⟨0, Nat.zero_le _, rfl, ⟨E, by simp [tears], HK.out⟩, Tu.refl _ _⟩
  case round =>
    obtain ⟨k, hk, rfl, HF, HT⟩ := hrel
    obtain ⟨F, hF, hr⟩ := HF.out
    by_cases hlt : k < E.length
    · obtain ⟨hk', hat, hfl, hset, hG⟩ := tear_set hF hlt hr.good
      have i2 : (k : Int) < (E.length : Int) := by omega
      have c1 := hr.c1
      rw [hfl] at c1
      have hints : Ints wr ko ks := by
        by_cases hks : ks = []
        · intro j hj
          rw [hks] at hj
          cases hj
        · exact HI.out.tu HT.out (fun a ha => HKF.out a ha hks)
      have hsure := hr.good.sure _ (List.getElem_mem hk')
      have hmost := hr.good.most _ (List.getElem_mem hk')
      obtain ⟨gr, rfl, d0, d1, d2⟩ := hr.row.at hk'
      rw [hat] at d0 d1 d2 hsure hmost
      generalize E[k]'hlt = e at *
      obtain ⟨kk, hkk⟩ : ∃ kk, kept (numAt ks k) (e.bs.length - e.su + 1) = kk := ⟨_, rfl⟩
      have hkl2 := kept_lt2 (numAt ks k) (e.bs.length - e.su + 1) (by omega)
      rw [hkk] at hkl2
      have hte : tearE (numAt ks k) e = ⟨e.nm, e.bs.take (e.su + kk), e.su + kk⟩ := by unfold tearE; rw [hkk]
      rw [hte] at hset hG
      have HSET := Lib.hid hset
      have HG := Lib.hid hG
      have HHAT := Lib.hid hat
      have HINTS := Lib.hid hints
      have HFL := Lib.hid hfl
      have HWS := Lib.hid HT.out.size
      have hb0 := below_alloc wr (.cells #[.string (str e.nm), .string (str e.bs), .int .i64 (e.su : Int)] 123)
      have HB0 := Lib.hid hb0
      have HCB := Lib.hid (Cells.made wr 123 #[.string (str e.nm), .string (str e.bs), .int .i64 (e.su : Int)])
      have hr2 : RkC (fun x => S x ∧ x < wr.heap.size) wr g q (some ⟨gr, 0, none⟩) cap F := ⟨hr.blk, hr.row, ⟨hr.sg, hr.blk.lt⟩, fun x hx => ⟨hr.sr x hx, (hr.row.lt x hx).2⟩, hr.good⟩
      have HR := Lib.hid (hr2.new hb0)
      have HTB := Lib.hid (HT.out.trans (Tu.new (S := S) hb0) (fun _ _ h => h))
      have hsz := str_size e.bs
      clear hset hG hte hat hr hr2 hF HF hints hfl hb0
      by_cases hks : ks = []
      · have hl0 : kn = 0 := by rw [← HKN.out, hks]; rfl
        subst hl0
        have hk0 : kk = 0 := by rw [← hkk]; unfold numAt kept; rw [if_pos hks]; simp
        subst hk0
        rw [Nat.add_zero] at HSET HG
        clear hkk hks
        go_upto_region 8 with fail
        clear d0 d1 d2
        generalize wr.alloc (.cells #[.string (str e.nm), .string (str e.bs), .int .i64 (e.su : Int)] 123) = wb at *
        have hmle : e.su ≤ e.bs.length := hsure
        have hb1 : wb.cell? ⟨wr.heap.size, 1, none⟩ = some (.string (str e.bs)) := by rw [HCB.out.cell]; rfl
        have hb2 : wb.cell? ⟨wr.heap.size, 2, none⟩ = some (.int .i64 (e.su : Int)) := by rw [HCB.out.cell]; rfl
        have hz2 := HCB.out.frozen 2
        have HC8 : Hid (Cells (wb.setCell ⟨wr.heap.size, 2, none⟩ (.int .i64 (e.su : Int))) wr.heap.size 123 #[.string (str e.nm), .string (str e.bs), .int .i64 (e.su : Int)]) := HCB.out.set 2 (.int .i64 (e.su : Int))
        have HR8 := Lib.hid (HR.out.tu (Tu.grown (grown_set wb wr.heap.size 2 (.int .i64 (e.su : Int)))) (fun x _ hx he => absurd (show x = wr.heap.size by simpa using he) (by have := hx.2; omega)))
        have HT8 := Lib.hid (HTB.out.trans (Tu.grown (grown_set wb wr.heap.size 2 (.int .i64 (e.su : Int)))) (fun x hx he => absurd (show x = wr.heap.size by simpa using he) (by have := HWS.out; omega)))
        clear HR HTB HCB
        go_upto_region 9 with fail
        generalize wb.setCell ⟨wr.heap.size, 2, none⟩ (.int .i64 (e.su : Int)) = w8 at *
        clear hb1 hb2 hz2
        have hb1 : w8.cell? ⟨wr.heap.size, 1, none⟩ = some (.string (str e.bs)) := by rw [HC8.out.cell]; rfl
        have hb2 : w8.cell? ⟨wr.heap.size, 2, none⟩ = some (.int .i64 (e.su : Int)) := by rw [HC8.out.cell]; rfl
        have hz1 := HC8.out.frozen 1
        have hcut := str_cut e.bs (e.su)
        have hmi : (e.su : Int) ≤ (e.bs.length : Int) := by omega
        have HC9 : Hid (Cells (w8.setCell ⟨wr.heap.size, 1, none⟩ (.string (str (e.bs.take (e.su))))) wr.heap.size 123 #[.string (str e.nm), .string (str (e.bs.take (e.su))), .int .i64 (e.su : Int)]) := HC8.out.set 1 (.string (str (e.bs.take (e.su))))
        have HR9 := Lib.hid (HR8.out.tu (Tu.grown (grown_set w8 wr.heap.size 1 (.string (str (e.bs.take (e.su)))))) (fun x _ hx he => absurd (show x = wr.heap.size by simpa using he) (by have := hx.2; omega)))
        have HT9 := Lib.hid (HT8.out.trans (Tu.grown (grown_set w8 wr.heap.size 1 (.string (str (e.bs.take (e.su)))))) (fun x hx he => absurd (show x = wr.heap.size by simpa using he) (by have := HWS.out; omega)))
        clear HR8 HT8
        go_upto_region 10 with fail
        generalize w8.setCell ⟨wr.heap.size, 1, none⟩ (.string (str (e.bs.take (e.su)))) = w9 at *
        clear hb1 hb2 hz1 hcut hmi
        have c1 := HR9.out.c1
        rw [HFL.out] at c1
        obtain ⟨gr2, eg, d0, d1, d2⟩ := HR9.out.row.at hk'
        injection eg with eg
        injection eg with eg
        subst eg
        have z0 := World.ownsRow.frozenAt HR9.out.row (k * 3)
        have z1 := World.ownsRow.frozenAt HR9.out.row (k * 3 + 1)
        have z2 := World.ownsRow.frozenAt HR9.out.row (k * 3 + 2)
        have hb0 : w9.cell? ⟨wr.heap.size, 0, none⟩ = some (.string (str e.nm)) := by rw [HC9.out.cell]; rfl
        have hb1 : w9.cell? ⟨wr.heap.size, 1, none⟩ = some (.string (str (e.bs.take (e.su)))) := by rw [HC9.out.cell]; rfl
        have hb2 : w9.cell? ⟨wr.heap.size, 2, none⟩ = some (.int .i64 (e.su : Int)) := by rw [HC9.out.cell]; rfl
        refine wp_region_till (S := fun w' => w' = w9.drew) (by kernel_rfl) ?_
        refine wpTill_take (i := 0) (v := ?va0) rfl (by kernel_rfl) (fun _ _ _ h => h) (Or.inl ⟨by rfl, ?hya0⟩) rfl ?resta0
        case hya0 => (intro W hW; (try dsimp only at hW); go_simp; try with_reducible rfl)
        simp only [Act.put, List.setIfInBounds_toArray, List.set_cons_zero, List.set_cons_succ]
        refine wpTill_take (i := 1) (v := ?va1) rfl (by kernel_rfl) (fun _ _ _ h => h) (Or.inl ⟨by rfl, ?hya1⟩) rfl ?resta1
        case hya1 => (intro W hW; (try dsimp only at hW); go_simp; try with_reducible rfl)
        simp only [Act.put, List.setIfInBounds_toArray, List.set_cons_zero, List.set_cons_succ]
        refine wpTill_take (i := 2) (v := ?va2) rfl (by kernel_rfl) (fun _ _ _ h => h) (Or.inl ⟨by rfl, ?hya2⟩) rfl ?resta2
        case hya2 => (intro W hW; (try dsimp only at hW); go_simp; try with_reducible rfl)
        simp only [Act.put, List.setIfInBounds_toArray, List.set_cons_zero, List.set_cons_succ]
        refine wpTill_take (i := 3) (v := ?va3) rfl (by kernel_rfl) (fun _ _ _ h => h) (Or.inl ⟨by rfl, ?hya3⟩) rfl ?resta3
        case hya3 => (intro W hW; (try dsimp only at hW); go_simp; try with_reducible rfl)
        simp only [Act.put, List.setIfInBounds_toArray, List.set_cons_zero, List.set_cons_succ]
        refine wpTill_take (i := 4) (v := ?va4) rfl (by kernel_rfl) (fun _ _ _ h => h) (Or.inl ⟨by rfl, ?hya4⟩) rfl ?resta4
        case hya4 => (intro W hW; (try dsimp only at hW); go_simp; try with_reducible rfl)
        simp only [Act.put, List.setIfInBounds_toArray, List.set_cons_zero, List.set_cons_succ]
        refine wpTill_take (i := 5) (v := ?va5) rfl (by kernel_rfl) (fun _ _ _ h => h) (Or.inl ⟨by rfl, ?hya5⟩) rfl ?resta5
        case hya5 => (intro W hW; (try dsimp only at hW); go_simp; try with_reducible rfl)
        simp only [Act.put, List.setIfInBounds_toArray, List.set_cons_zero, List.set_cons_succ]
        refine wpTill_take (i := 6) (v := ?va6) rfl (by kernel_rfl) (fun _ _ _ h => h) (Or.inl ⟨by rfl, ?hya6⟩) rfl ?resta6
        case hya6 => (intro W hW; (try dsimp only at hW); go_simp; try with_reducible rfl)
        simp only [Act.put, List.setIfInBounds_toArray, List.set_cons_zero, List.set_cons_succ]
        refine wpTill_run (i := 7) (by kernel_rfl) rfl rfl (fun K hK => ?_)
        go_simp
        refine hK _ _ ?_
        clear hK K
        refine wpTill_done (by kernel_rfl) ?_
        have HX := Lib.hid (HR9.out.set3 hk' ⟨e.nm, e.bs.take (e.su), e.su⟩ HG.out)
        have HT10 := Lib.hid (HT9.out.trans HX.out.2 (fun _ _ h => h.1))
        have hr10 := HX.out.1.tu (S' := fun _ => False) (Tu.refl _ _).draw (fun _ _ _ h => h)
        have HR10 : Hid (∃ F', F' = tears ks 0 (E.take (k + 1)) ++ E.drop (k + 1) ∧ RkC S _ g q (some ⟨gr, 0, none⟩) cap F') := ⟨_, HSET.out, hr10.blk, hr10.row, hr10.sg.1, fun x hx => (hr10.sr x hx).1, hr10.good⟩
        clear hr10 d0 d1 d2 z0 z1 z2 hb0 hb1 hb2 c1
        go_wp2
        go_round
        case rel => exact ⟨k + 1, by omega, by go_num, HR10.out, HT10.out.draw⟩
        case measure => simp [intOf]; omega
      · have hkp : 0 < kn := by have := List.length_pos_iff.2 hks; rw [HKN.out] at this; exact this
        obtain ⟨kq, hkq⟩ : ∃ kq : Nat, k % kn = kq := ⟨_, rfl⟩
        have hkq2 : kq < ks.length := by rw [HKN.out, ← hkq]; exact Nat.mod_lt _ hkp
        obtain ⟨b, o, rfl, hcell, hr1, hr2⟩ := HINTS.out kq hkq2
        have hn1 : numAt ks k = ks[kq]'hkq2 := by unfold numAt; rw [if_neg hks, HKN.out, hkq, List.getElem?_eq_getElem hkq2]; rfl
        rw [← hn1] at hcell
        have hrem : (k : Int) % (kn : Int) = (kq : Int) := by rw [← hkq]; rfl
        have hrem2 : (k : Int).tmod (kn : Int) = (kq : Int) := by rw [← hkq]; rfl
        obtain ⟨d, hd⟩ : ∃ d, e.bs.length - e.su = d := ⟨_, rfl⟩
        rw [hd] at hkk hkl2
        have RO : Hid (∀ (W : World) (n : Nat), Calls Tryz.prog 120 #[.int .i64 (numAt ks k), .int .i64 ((d : Int) + 1)] (W.drewN n) fun R w' => R = .returned (.int .i64 (kk : Int)) ∧ w' = W.drewN n) := fun W n => by
          have := round_c (numAt ks k) (d + 1) (W.drewN n) (by omega) (by omega)
          rw [hkk] at this
          simpa using this
        have hd2 : (e.bs.length : Int) - (e.su : Int) = (d : Int) := by omega
        obtain ⟨m, hm⟩ : ∃ m, e.su + kk = m := ⟨_, rfl⟩
        rw [hm] at HSET HG
        have hmle : m ≤ e.bs.length := by omega
        have hadd : (e.su : Int) + (kk : Int) = (m : Int) := by omega
        have hq2 : (kq : Int) < (kn : Int) := by rw [← HKN.out]; omega
        have hcb := HB0.out.cell (p := ⟨b, o + kq, none⟩) (World.block_lt_of_cell? wr _ hcell)
        rw [hcell] at hcb
        have y1 : (wr.alloc (.cells #[.string (str e.nm), .string (str e.bs), .int .i64 (e.su : Int)] 123)).cell? ⟨wr.heap.size, 1, none⟩ = some (.string (str e.bs)) := by rw [HCB.out.cell]; rfl
        have y2 : (wr.alloc (.cells #[.string (str e.nm), .string (str e.bs), .int .i64 (e.su : Int)] 123)).cell? ⟨wr.heap.size, 2, none⟩ = some (.int .i64 (e.su : Int)) := by rw [HCB.out.cell]; rfl
        clear hkk hks hn1 hkq hcell hd hm
        generalize numAt ks k = nu at *
        go_upto_region 7 with fail
        clear d0 d1 d2 c1
        generalize wr.alloc (.cells #[.string (str e.nm), .string (str e.bs), .int .i64 (e.su : Int)] 123) = wa at *
        go_quiet (first | (go_at_call 120; exact Calls.quiet_of_same (RO.out _ _)))
        have HCB2 := Lib.hid (HCB.out.below (below_drewN (Below.refl wa.heap.size wa) nq) HCB.out.lt)
        have HR2 := Lib.hid (HR.out.new (below_drewN (Below.refl wa.heap.size wa) nq))
        have HTB2 := Lib.hid (HTB.out.trans (Tu.drewN (S := S) wa nq) (fun _ _ h => h))
        clear HCB HR HTB HB0 hcb y1 y2 RO
        generalize wa.drewN nq = wb at *
        have HCB := HCB2
        have HR := HR2
        have HTB := HTB2
        clear HCB2 HR2 HTB2
        have hb1 : wb.cell? ⟨wr.heap.size, 1, none⟩ = some (.string (str e.bs)) := by rw [HCB.out.cell]; rfl
        have hb2 : wb.cell? ⟨wr.heap.size, 2, none⟩ = some (.int .i64 (e.su : Int)) := by rw [HCB.out.cell]; rfl
        have hz2 := HCB.out.frozen 2
        have HC8 : Hid (Cells (wb.setCell ⟨wr.heap.size, 2, none⟩ (.int .i64 (m : Int))) wr.heap.size 123 #[.string (str e.nm), .string (str e.bs), .int .i64 (m : Int)]) := HCB.out.set 2 (.int .i64 (m : Int))
        have HR8 := Lib.hid (HR.out.tu (Tu.grown (grown_set wb wr.heap.size 2 (.int .i64 (m : Int)))) (fun x _ hx he => absurd (show x = wr.heap.size by simpa using he) (by have := hx.2; omega)))
        have HT8 := Lib.hid (HTB.out.trans (Tu.grown (grown_set wb wr.heap.size 2 (.int .i64 (m : Int)))) (fun x hx he => absurd (show x = wr.heap.size by simpa using he) (by have := HWS.out; omega)))
        clear HR HTB HCB
        go_upto_region 9 with fail
        generalize wb.setCell ⟨wr.heap.size, 2, none⟩ (.int .i64 (m : Int)) = w8 at *
        clear hb1 hb2 hz2
        have hb1 : w8.cell? ⟨wr.heap.size, 1, none⟩ = some (.string (str e.bs)) := by rw [HC8.out.cell]; rfl
        have hb2 : w8.cell? ⟨wr.heap.size, 2, none⟩ = some (.int .i64 (m : Int)) := by rw [HC8.out.cell]; rfl
        have hz1 := HC8.out.frozen 1
        have hcut := str_cut e.bs (m)
        have hmi : (m : Int) ≤ (e.bs.length : Int) := by omega
        have HC9 : Hid (Cells (w8.setCell ⟨wr.heap.size, 1, none⟩ (.string (str (e.bs.take (m))))) wr.heap.size 123 #[.string (str e.nm), .string (str (e.bs.take (m))), .int .i64 (m : Int)]) := HC8.out.set 1 (.string (str (e.bs.take (m))))
        have HR9 := Lib.hid (HR8.out.tu (Tu.grown (grown_set w8 wr.heap.size 1 (.string (str (e.bs.take (m)))))) (fun x _ hx he => absurd (show x = wr.heap.size by simpa using he) (by have := hx.2; omega)))
        have HT9 := Lib.hid (HT8.out.trans (Tu.grown (grown_set w8 wr.heap.size 1 (.string (str (e.bs.take (m)))))) (fun x hx he => absurd (show x = wr.heap.size by simpa using he) (by have := HWS.out; omega)))
        clear HR8 HT8
        go_upto_region 10 with fail
        generalize w8.setCell ⟨wr.heap.size, 1, none⟩ (.string (str (e.bs.take (m)))) = w9 at *
        clear hb1 hb2 hz1 hcut hmi
        have c1 := HR9.out.c1
        rw [HFL.out] at c1
        obtain ⟨gr2, eg, d0, d1, d2⟩ := HR9.out.row.at hk'
        injection eg with eg
        injection eg with eg
        subst eg
        have z0 := World.ownsRow.frozenAt HR9.out.row (k * 3)
        have z1 := World.ownsRow.frozenAt HR9.out.row (k * 3 + 1)
        have z2 := World.ownsRow.frozenAt HR9.out.row (k * 3 + 2)
        have hb0 : w9.cell? ⟨wr.heap.size, 0, none⟩ = some (.string (str e.nm)) := by rw [HC9.out.cell]; rfl
        have hb1 : w9.cell? ⟨wr.heap.size, 1, none⟩ = some (.string (str (e.bs.take (m)))) := by rw [HC9.out.cell]; rfl
        have hb2 : w9.cell? ⟨wr.heap.size, 2, none⟩ = some (.int .i64 (m : Int)) := by rw [HC9.out.cell]; rfl
        refine wp_region_till (S := fun w' => w' = w9.drew) (by kernel_rfl) ?_
        refine wpTill_take (i := 0) (v := ?vb0) rfl (by kernel_rfl) (fun _ _ _ h => h) (Or.inl ⟨by rfl, ?hyb0⟩) rfl ?restb0
        case hyb0 => (intro W hW; (try dsimp only at hW); go_simp; try with_reducible rfl)
        simp only [Act.put, List.setIfInBounds_toArray, List.set_cons_zero, List.set_cons_succ]
        refine wpTill_take (i := 1) (v := ?vb1) rfl (by kernel_rfl) (fun _ _ _ h => h) (Or.inl ⟨by rfl, ?hyb1⟩) rfl ?restb1
        case hyb1 => (intro W hW; (try dsimp only at hW); go_simp; try with_reducible rfl)
        simp only [Act.put, List.setIfInBounds_toArray, List.set_cons_zero, List.set_cons_succ]
        refine wpTill_take (i := 2) (v := ?vb2) rfl (by kernel_rfl) (fun _ _ _ h => h) (Or.inl ⟨by rfl, ?hyb2⟩) rfl ?restb2
        case hyb2 => (intro W hW; (try dsimp only at hW); go_simp; try with_reducible rfl)
        simp only [Act.put, List.setIfInBounds_toArray, List.set_cons_zero, List.set_cons_succ]
        refine wpTill_take (i := 3) (v := ?vb3) rfl (by kernel_rfl) (fun _ _ _ h => h) (Or.inl ⟨by rfl, ?hyb3⟩) rfl ?restb3
        case hyb3 => (intro W hW; (try dsimp only at hW); go_simp; try with_reducible rfl)
        simp only [Act.put, List.setIfInBounds_toArray, List.set_cons_zero, List.set_cons_succ]
        refine wpTill_take (i := 4) (v := ?vb4) rfl (by kernel_rfl) (fun _ _ _ h => h) (Or.inl ⟨by rfl, ?hyb4⟩) rfl ?restb4
        case hyb4 => (intro W hW; (try dsimp only at hW); go_simp; try with_reducible rfl)
        simp only [Act.put, List.setIfInBounds_toArray, List.set_cons_zero, List.set_cons_succ]
        refine wpTill_take (i := 5) (v := ?vb5) rfl (by kernel_rfl) (fun _ _ _ h => h) (Or.inl ⟨by rfl, ?hyb5⟩) rfl ?restb5
        case hyb5 => (intro W hW; (try dsimp only at hW); go_simp; try with_reducible rfl)
        simp only [Act.put, List.setIfInBounds_toArray, List.set_cons_zero, List.set_cons_succ]
        refine wpTill_take (i := 6) (v := ?vb6) rfl (by kernel_rfl) (fun _ _ _ h => h) (Or.inl ⟨by rfl, ?hyb6⟩) rfl ?restb6
        case hyb6 => (intro W hW; (try dsimp only at hW); go_simp; try with_reducible rfl)
        simp only [Act.put, List.setIfInBounds_toArray, List.set_cons_zero, List.set_cons_succ]
        refine wpTill_run (i := 7) (by kernel_rfl) rfl rfl (fun K hK => ?_)
        go_simp
        refine hK _ _ ?_
        clear hK K
        refine wpTill_done (by kernel_rfl) ?_
        have HX := Lib.hid (HR9.out.set3 hk' ⟨e.nm, e.bs.take (m), m⟩ HG.out)
        have HT10 := Lib.hid (HT9.out.trans HX.out.2 (fun _ _ h => h.1))
        have hr10 := HX.out.1.tu (S' := fun _ => False) (Tu.refl _ _).draw (fun _ _ _ h => h)
        have HR10 : Hid (∃ F', F' = tears ks 0 (E.take (k + 1)) ++ E.drop (k + 1) ∧ RkC S _ g q (some ⟨gr, 0, none⟩) cap F') := ⟨_, HSET.out, hr10.blk, hr10.row, hr10.sg.1, fun x hx => (hr10.sr x hx).1, hr10.good⟩
        clear hr10 d0 d1 d2 z0 z1 z2 hb0 hb1 hb2 c1
        go_wp2
        go_round
        case rel => exact ⟨k + 1, by omega, by go_num, HR10.out, HT10.out.draw⟩
        case measure => simp [intOf]; omega
    · have hx : k = E.length := by omega
      have c1 := hr.c1
      have hfl : F.length = E.length := by rw [hF, List.length_append, tears_len, List.length_take, List.length_drop]; omega
      rw [hfl] at c1
      have i2 : ¬ (k : Int) < (E.length : Int) := by omega
      have HE : Hid (F = aCrash ks E) := by show _ = _; rw [hF, hx, List.take_length, List.drop_length, List.append_nil]; rfl
      have HR := Lib.hid hr
      clear hx hlt hk hF hfl hr
      go_wp2
      go_end0
      exact ⟨rfl, ⟨_, _, _, rfl, by rw [← HE.out]; exact HR.out⟩, HT.out⟩
end
end Go.Proofs.YtacgmadgkmcmoaaGreatDoor
