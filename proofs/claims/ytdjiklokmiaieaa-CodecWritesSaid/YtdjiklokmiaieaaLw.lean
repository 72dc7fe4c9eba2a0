/- The statement CodecWrites of layer 2: the Go function returns true. Conditions: its argument reads as a list of items. -/
import Derived.Test.YtdjiklokmiaieaaGt
import Derived.Test.YtdjiklokmiaieaaKn
namespace Go.Proofs.Ytdjiklokmiaieaa
open Go.RowKit
set_option linter.unusedVariables false

/-- A slice of items that came in: it lies below block B. -/
def Items (w : World) (B : Nat) (a : Option Addr) (len : Nat) (xs : List Itm) : Prop :=
  xs.length = len ∧ len ≤ maxLen ∧ ∀ i (h : i < xs.length), ∃ b o, a = some ⟨b, o, none⟩ ∧ b < B ∧ (xs[i]'h).k < 256 ∧ (xs[i]'h).n < 18446744073709551616 ∧ (xs[i]'h).s.length ≤ maxLen ∧
    w.cell? ⟨b, o + i * 3, none⟩ = some (.int .u8 (xs[i]'h).k) ∧ w.cell? ⟨b, o + i * 3 + 1, none⟩ = some (.int .u64 (xs[i]'h).n) ∧ w.cell? ⟨b, o + i * 3 + 2, none⟩ = some (.string (str (xs[i]'h).s))
theorem items_below {w w' : World} {B len : Nat} {a : Option Addr} {xs : List Itm} (h : Items w B a len xs) (hb : Below B w w') : Items w' B a len xs := by
  refine ⟨h.1, h.2.1, fun i hi => ?_⟩
  obtain ⟨b, o, ha, hlt, h1, h2, h3, c0, c1, c2⟩ := h.2.2 i hi
  exact ⟨b, o, ha, hlt, h1, h2, h3, (hb.cell hlt).trans c0, (hb.cell hlt).trans c1, (hb.cell hlt).trans c2⟩
def FewRel (xs : List Itm) (i : Value) : Prop := ∃ k : Nat, i = .int .i64 k ∧ k ≤ xs.length ∧ k ≤ 80 ∧ ∀ j (h : j < xs.length), j < k → (xs[j]'h).s.length ≤ 300
def FewTold (xs : List Itm) (E : Ending) : Prop := ∃ b : Bool, E = .returned (.bool b) ∧ (b = true → xs.length ≤ 60 ∧ ∀ j (h : j < xs.length), (xs[j]'h).s.length ≤ 300)
set_option maxHeartbeats 1000000 in
theorem few_c (w : World) (B : Nat) (a : Option Addr) (len cap : Nat) (xs : List Itm) (h : Items w B a len xs) :
    Calls Try.prog 8 #[.slice a len cap] w fun E w' => FewTold xs E ∧ w = w' := by
  have hlen := h.1
  have hml := h.2.1
  subst hlen
  have H := Lib.hid h
  clear h
  unfold maxLen at hml
  go_enter Try.func8, Try.ntmps8
  go_wp2
  go_loop [3] (fun i => FewRel xs i) (fun i => 80 - (intOf i).toNat)
  case atStart => exact ⟨0, rfl, by omega, by omega, fun j h h0 => by omega⟩
  case round =>
    obtain ⟨k, rfl, hk1, hk2, hall⟩ := hrel
    have HA := Lib.hid hall
    clear hall
    by_cases hlt : k < xs.length
    · by_cases h80 : k < 80
      · obtain ⟨b, o, ha, hbB, _, _, hsl, c0, c1, c2⟩ := H.out.2.2 k hlt
        subst ha
        have hsz := str_size (xs[k]'hlt).s
        unfold maxLen at hsl
        clear c0 c1
        by_cases h300 : (xs[k]'hlt).s.length ≤ 300
        · have HS := Lib.hid h300
          go_wp2
          go_round
          case rel =>
            refine ⟨k + 1, by go_num, by omega, by omega, fun j h hj => ?_⟩
            by_cases hjk : j = k
            · subst hjk; exact HS.out
            · exact HA.out j h (by omega)
          case measure => simp [intOf]; omega
        · go_wp2
          go_ret
          exact ⟨⟨false, rfl, fun h => by cases h⟩, rfl⟩
      · have HN := Lib.hid (show ¬ xs.length ≤ 60 from by omega)
        have hd : decide ((xs.length : Int) ≤ 60) = false := by simp; omega
        go_wp2
        go_ret
        exact ⟨⟨false, rfl, fun h => by cases h⟩, rfl⟩
    · have hk : k = xs.length := by omega
      have HK := Lib.hid hk
      clear hk
      by_cases h60 : xs.length ≤ 60
      · have HX := Lib.hid h60
        go_wp2
        go_ret
        exact ⟨⟨true, by simp; have := HX.out; omega, fun _ => ⟨HX.out, fun j h => HA.out j h (by rw [HK.out]; exact h)⟩⟩, rfl⟩
      · have hd : decide ((xs.length : Int) ≤ 60) = false := by simp; omega
        go_wp2
        go_ret
        exact ⟨⟨false, by simp, fun h => by cases h⟩, rfl⟩
def encs (xs : List Itm) : List UInt8 := xs.flatMap enc
theorem enc_len (x : Itm) : (enc x).length ≤ 10 + x.s.length := by
  have h1 := (vr_len x.n).2
  have h2 := (vr_len x.s.length).2
  unfold enc
  (repeat' split) <;> simp [le_length, tx] <;> omega
theorem encs_len : ∀ (xs : List Itm) (B : Nat), (∀ j (h : j < xs.length), (xs[j]'h).s.length ≤ B) → (encs xs).length ≤ xs.length * (10 + B)
  | [], B, h => by simp [encs]
  | x :: r, B, h => by
    have ih := encs_len r B (fun j hj => by have := h (j + 1) (by simp; omega); simpa using this)
    have hx := enc_len x
    have h0 := h 0 (by simp)
    simp only [List.getElem_cons_zero] at h0
    simp only [encs, List.flatMap_cons, List.length_append, List.length_cons, Nat.add_mul] at ih ⊢
    omega
theorem encs_take_len (xs : List Itm) (k : Nat) (hl : xs.length ≤ 60) (hs : ∀ j (h : j < xs.length), (xs[j]'h).s.length ≤ 300) : (encs (xs.take k)).length ≤ 18600 := by
  have := encs_len (xs.take k) 300 (fun j hj => by rw [List.getElem_take]; exact hs j _)
  have hk : (xs.take k).length ≤ 60 := by rw [List.length_take]; omega
  have := Nat.mul_le_mul_right (10 + 300) hk
  omega
theorem encs_snoc (xs : List Itm) (k : Nat) (h : k < xs.length) : encs (xs.take (k + 1)) = encs (xs.take k) ++ enc (xs[k]'h) := by
  unfold encs
  rw [List.take_succ_eq_append_getElem h]
  simp only [List.flatMap_append, List.flatMap_cons, List.flatMap_nil, List.append_nil]
/-- A round of CodecWrites, at its head: so many items are written. -/
def WritesRel (W : World) (xs : List Itm) (g : Nat) (s i : Value) (wr : World) : Prop :=
  ∃ k : Nat, k ≤ xs.length ∧ i = .int .i64 k ∧ s = .string (str (encs (xs.take k))) ∧ Wr wr g (encs (xs.take k)) ∧ Below g W wr
theorem below_mid {w w1 w2 : World} {B g : Nat} (h : Below B w w1) (k : Below g w1 w2) (hg : B ≤ g) : Below B w w2 := h.trans (k.mono hg)
theorem str_eqv (l : List UInt8) : ((str l).toList == (str l).toList) = true := beq_self_eq_true _
set_option maxHeartbeats 2000000 in
theorem lawWrites (w : World) (a : Option Addr) (len cap : Nat) (xs : List Itm) (h : Items w w.heap.size a len xs) :
    Calls Try.prog 3 #[.slice a len cap] w fun E w' => E = .returned (.bool true) ∧ Below w.heap.size w w' := by
  have hlen := h.1
  have hml := h.2.1
  subst hlen
  unfold maxLen at hml
  go_enter Try.func3, Try.ntmps3
  go_wp2_with fail
  refine (few_c w _ a _ cap xs h).mono ?_
  rintro E w1 ⟨⟨b, rfl, hb⟩, rfl⟩
  cases b with
  | false =>
    clear hb
    go_wp2_with fail
    refine (works_c _).mono ?_
    rintro E w1 ⟨rfl, hw1⟩
    go_wp2
    go_ret
    exact ⟨rfl, below_of_grown hw1⟩
  | true =>
    obtain ⟨h60, h300⟩ := hb rfl
    have H300 := Lib.hid h300
    clear hb h300
    have H := Lib.hid h
    clear h
    go_wp2
    go_loopw [4, 5] (fun s i wr => WritesRel (w.alloc (.cells #[.slice none 0 0] 28)) xs w.heap.size s i wr) (fun _ i _ => xs.length - (intOf i).toNat)
    case atStart => exact ⟨0, by omega, rfl, rfl, wr_new w, Below.refl _ _⟩
    case round =>
      obtain ⟨k, hk, rfl, rfl, hwr, hbel⟩ := hrel
      have hB := (below_mid ((Below.refl w.heap.size w).alloc (Nat.le_refl _) _) hbel (Nat.le_refl _))
      have HB := Lib.hid hB
      have hel := encs_take_len xs k h60 H300.out
      clear hB
      by_cases hlt : k < xs.length
      · obtain ⟨b, o, ha, hbB, hx1, hx2, hx3, c0, c1, c2⟩ := (items_below H.out HB.out).2.2 k hlt
        subst ha
        have h3 := H300.out k hlt
        have HE := Lib.hid (encs_snoc xs k hlt)
        have hel2 := encs_take_len xs (k + 1) h60 H300.out
        have HX2 := Lib.hid hx2
        clear hx2 hx3
        generalize hx : xs[k]'hlt = x at *
        have HX := Lib.hid hx
        have hok : x.ok := ⟨hx1, HX2.out, by omega⟩
        have HOK := Lib.hid hok
        clear hx hok
        rw [HE.out] at hel2
        have hsz1 := str_size (encs (xs.take k))
        have hsz2 := str_size (enc x)
        have hap := str_append (encs (xs.take k)) (enc x)
        have hle := enc_len x
        generalize hbs : encs (xs.take k) = bs at *
        have HBS := Lib.hid hbs
        clear hbs
        have hq := str_eqv (bs ++ enc x)
        go_wp2_with fail
        refine (put_c x w.heap.size bs _ HOK.out hwr (by omega)).mono ?_
        rintro E w1 ⟨rfl, hw1, hb1⟩
        have HB1 := Lib.hid (HB.out.trans (hb1.mono (Nat.le_refl _)))
        have c0 := (hb1.cell (p := ⟨b, o + k * 3, none⟩) hbB).trans c0
        have c1 := (hb1.cell (p := ⟨b, o + k * 3 + 1, none⟩) hbB).trans c1
        have c2 := (hb1.cell (p := ⟨b, o + k * 3 + 2, none⟩) hbB).trans c2
        go_wp2_with fail
        refine (bytes_c x _ HOK.out).mono ?_
        rintro E w2 ⟨rfl, hg2⟩
        have hw2 := wr_on0 hw1 hg2
        go_wp2_with fail
        refine (wrBytes _ _ _ hw2).mono ?_
        rintro E w3 ⟨rfl, rfl⟩
        go_wp2
        go_roundw
        case rel =>
          refine ⟨k + 1, by omega, by go_num, ?_, ?_, ?_⟩
          · rw [HE.out]
          · rw [HE.out]; exact hw2
          · exact below_none (hbel.trans hb1) hg2 (Nat.le_of_lt (wr_lt hw1))
        case measure => simp [intOf]; omega
      · go_wp2_with fail
        refine (works_c _).mono ?_
        rintro E w1 ⟨rfl, hw1⟩
        go_wp2
        go_ret
        exact ⟨rfl, below_none HB.out hw1 (Nat.le_of_lt (wr_lt hwr))⟩
end Go.Proofs.Ytdjiklokmiaieaa
