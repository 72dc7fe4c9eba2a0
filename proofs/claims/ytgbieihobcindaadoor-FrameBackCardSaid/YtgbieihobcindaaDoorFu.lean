/- The statement FrameTurned: the Go function returns true. Conditions: the table of four steps lies in its variable. -/
import Derived.Test.YtgbieihobcindaaDoorFk
import Derived.Test.YtgbieihobcindaaDoorFt
import Derived.Deep.QuietTactic
import Derived.BigQuiet
import Derived.BigRegion
import Derived.StillTailTactics
import Derived.IntWalk
namespace Go.Proofs.YtgbieihobcindaaDoor
open Go.RowKit
set_option linter.unusedVariables false

/-- A round of FrameTurned, at its head: so many bits were looked at. -/
def TurnRel (W : World) (g : Nat) (t : List UInt8) (a m L : Nat) (b i : Value) (wr : World) : Prop :=
  ∃ (k : Nat) (tb : Bool) (bs : List UInt8), k ≤ 32 ∧ a + k ≤ L ∧ i = .int .i64 k ∧ b = .bool tb ∧ (tb = false ↔ m % 2 ^ k = 0) ∧ Turned t bs (16 + a) k m ∧ Blk wr g 5 bs ∧ Below g W wr
theorem wrap_place (p n : Nat) (hn : 0 < n) (hn2 : n ≤ 160000) : wrap64 ((p : Int) % (n : Int)) = ((p % n : Nat) : Int) := by
  have : p % n < n := Nat.mod_lt _ hn
  rw [← Int.natCast_emod]
  exact IntWalk.wrap64_in _ (by constructor <;> omega)
theorem flip_next {s bs : List UInt8} {a k m q r : Nat} {x y : UInt8} (h : Turned s bs (16 + a) k m) (hlt : 16 + a + k < 8 * s.length) (hd : m / 2 ^ k % 2 = 1)
    (hq : 2 + (a + k) / 8 = q) (hr : (a + k) % 8 = r) (hx : x.toNat = (bs.getD q 0).toNat) (hy : y.toNat = x.toNat ^^^ 2 ^ r) : Turned s (bs.set q y) (16 + a) (k + 1) m := by
  have e1 : (16 + a + k) / 8 = q := by omega
  have e2 : (16 + a + k) % 8 = r := by omega
  have := turned_flip h hlt hd y (by rw [e1, e2, hy, hx])
  rwa [e1] at this
set_option maxHeartbeats 4000000 in
theorem lawTurned (s more : List UInt8) (p m : Nat) (w : World) (hs : s.length ≤ maxLen) (hmo : more.length ≤ maxLen) (hp : p < 65536) (hm : m < 4294967296) (ht : Tab w) :
    Calls Tryd.prog 7 #[.string (str s), .agg #[.int .u16 p, .int .u32 m], .string (str more)] w (Yes w) := by
  have hsz := str_size s
  have hsm := str_size more
  have HS := Lib.hid hs
  unfold maxLen at hs hmo
  have HG0 := Lib.hid (World.grownBy_alloc w (.cells #[.int .u16 p, .int .u32 m] 48) none)
  have HT := Lib.hid (tab_grown ht HG0.out)
  have hbox : Cells (w.alloc (.cells #[.int .u16 p, .int .u32 m] 48)) w.heap.size 48 #[.int .u16 p, .int .u32 m] := Cells.made w _ _
  have HBX := Lib.hid hbox
  clear ht hbox
  have h3 : 600 < s.length ∨ (s.length ≤ 600 ∧ 600 < more.length) ∨ (s.length ≤ 600 ∧ more.length ≤ 600) := by omega
  rcases h3 with h3 | ⟨h3, h4⟩ | ⟨h3, h4⟩
  · go_enter Tryd.func7, Tryd.ntmps7
    go_wp2_with fail
    refine (worksL _ HT.out).mono ?_
    rintro E w1 ⟨rfl, hg1⟩
    go_wp2
    go_ret
    exact yes_of (HG0.out.trans hg1)
  · go_enter Tryd.func7, Tryd.ntmps7
    go_wp2_with fail
    refine (worksL _ HT.out).mono ?_
    rintro E w1 ⟨rfl, hg1⟩
    go_wp2
    go_ret
    exact yes_of (HG0.out.trans hg1)
  · have hfl := frm_len s
    have hps : putS s = frm s := by rw [putS, if_pos (by omega)]
    have HPS := Lib.hid hps
    have hst := str_size (frm s)
    clear hps
    generalize hft : frm s = t at *
    have HFT := Lib.hid hft
    have HTLN := Lib.hid hfl
    clear hft
    have htl : t.length ≤ 606 := by omega
    have htl6 : 6 ≤ t.length := by omega
    clear hfl
    have e2 : (t.length : Int) - 2 = ((t.length - 2 : Nat) : Int) := by omega
    have hpl : wrap64 ((p : Int) % (8 * ((t.length - 2 : Nat) : Int))) = ((p % (8 * (t.length - 2)) : Nat) : Int) := wrap_place p (8 * (t.length - 2)) (by omega) (by omega)
    have hpl2 : (p : Int) % (8 * ((t.length - 2 : Nat) : Int)) = ((p % (8 * (t.length - 2)) : Nat) : Int) := by rw [Int.natCast_emod]; rfl
    have hal : p % (8 * (t.length - 2)) < 8 * (t.length - 2) := Nat.mod_lt _ (by omega)
    generalize ha : p % (8 * (t.length - 2)) = a at *
    have HA := Lib.hid ha
    clear ha
    have HL : Hid (8 * (t.length - 2) = 32 + 8 * s.length) := by show _ = _; have := HTLN.out; omega
    go_enter Tryd.func7, Tryd.ntmps7
    go_wp2_with fail
    refine (putL s _ HS.out HT.out).mono ?_
    rintro E w1 ⟨rfl, hg1⟩
    rw [HPS.out]
    have hbox1 := Cells.grown HBX.out hg1 (by simp)
    have HT1 := Lib.hid (tab_grown HT.out hg1)
    have HG1 := Lib.hid (HG0.out.trans hg1)
    have hwl : w.heap.size < w1.heap.size := hbox1.lt
    clear hg1
    have hcv := Lib.run_convert_string_bytes (P := Tryd.prog) w1 9 40 5 (str t) Tryd.underlying9 Tryd.underlying40 Tryd.underlying5
    have hbk := Lib.hid (blk_bytes w1 5 t)
    have hg := Lib.hid (grown_bytes w1 5 (str t) none)
    have hbox2 := Cells.grown hbox1 hg.out (by simp)
    have cA : (Lib.bytesWorld w1 5 (str t)).cell? ⟨w.heap.size, 0, none⟩ = some (.int .u16 p) := by rw [hbox2.cell]; rfl
    have cB := Lib.hid (show (Lib.bytesWorld w1 5 (str t)).cell? ⟨w.heap.size, 1, none⟩ = some (.int .u32 m) from by rw [hbox2.cell]; rfl)
    have HTW := Lib.hid (tab_grown HT1.out hg.out)
    have HBW := Lib.hid (below_of_grown (HG1.out.trans hg.out))
    have HWL := Lib.hid hwl
    have HSW := Lib.hid hg.out.size
    clear hbox1 hbox2 hwl
    generalize Lib.bytesWorld w1 5 (str t) = W at *
    generalize grownCap w1 (str t).size 0 5 = cap at *
    have h2 : a < 32 ∨ 32 ≤ a := by omega
    rcases h2 with h2 | h2
    · skip
      go_wp2
      rw [hpl2, show decide ((a : Int) < 32) = true from decide_eq_true (by omega)]
      clear hcv hpl hpl2 e2
      go_loopw [11, 12] (fun b i wr => TurnRel W w1.heap.size t a m 32 b i wr) (fun _ i _ => 32 - (intOf i).toNat)
      case atStart => exact ⟨0, false, t, by omega, by omega, rfl, rfl, by simp [Nat.mod_one], turned_start t (16 + a) m, hbk.out, Below.refl _ _⟩
      case round =>
        obtain ⟨k, tb, bs, hk, hak, rfl, rfl, hc0, htu, hblk, hbel⟩ := hrel
        have c1 := (hbel.cell (p := ⟨w.heap.size, 1, none⟩) HWL.out).trans cB.out
        have hc8 : (k < 32 ∧ a + k < 32) ∨ (k < 32 ∧ a + k = 32) ∨ k = 32 := by omega
        rcases hc8 with ⟨hk32, hlt⟩ | hexit
        · have hmk : m / 2 ^ k < 4294967296 := Nat.lt_of_le_of_lt (Nat.div_le_self _ _) hm
          have hand0 := u32_and_nat (m / 2 ^ k) 1 hmk (by omega)
          rw [nat_mask1, Int.natCast_ediv, Int.natCast_pow] at hand0
          have hd1 : m / 2 ^ k % 2 = 0 ∨ m / 2 ^ k % 2 = 1 := by omega
          rcases hd1 with hd1 | hd1
          · have hand : bits .and .u32 ((m : Int) / 2 ^ k) 1 = 0 := by rw [hd1] at hand0; exact hand0
            have HST := Lib.hid (turned_stay htu hd1)
            have HMN := Lib.hid (mod_next m k)
            have HD := Lib.hid hd1
            have HC := Lib.hid hc0
            clear hand0 hd1 hc0
            go_wp2
            go_roundw
            case rel => exact ⟨k + 1, tb, bs, by omega, by omega, by go_num, rfl, by rw [HMN.out, HC.out]; exact ⟨fun h => ⟨h, HD.out⟩, fun h => h.1⟩, HST.out, hblk, hbel⟩
            case measure => simp [intOf]; omega
          · have hand : bits .and .u32 ((m : Int) / 2 ^ k) 1 = 1 := by rw [hd1] at hand0; exact hand0
            have HMN := Lib.hid (mod_next m k)
            have HD := Lib.hid hd1
            have HC := Lib.hid hc0
            clear hand0 hd1 hc0
            have hpos : 16 + a + k < 8 * t.length := by omega
            have hq : 2 + (a + k) / 8 < bs.length := by rw [htu.1]; omega
            have hcell := hblk.drew.cell _ hq
            have hfr := hblk.drew.frozen _ hq
            have HX : Hid ((bs[2 + (a + k) / 8]'hq).toNat = (bs.getD (2 + (a + k) / 8) 0).toNat) := by show _ = _; simp [List.getD_eq_getElem?_getD, hq]
            generalize bs[2 + (a + k) / 8]'hq = x at *
            have hx8 := UInt8.toNat_lt x
            have HBL := Lib.hid hbel
            have HBK := Lib.hid hblk.drew
            have HTU := Lib.hid htu
            have e1 : IntKind.i64.wrap ((a : Int) + (k : Int)) = (a : Int) + k := IntWalk.i64_in _ (by constructor <;> omega)
            have e2 : IntKind.i64.wrap (((a : Int) + k).tdiv 8) = (((a + k) / 8 : Nat) : Int) := by
              have : ((a : Int) + k).tdiv 8 = (((a + k) / 8 : Nat) : Int) := rfl
              rw [this]
              exact IntWalk.i64_in _ (by constructor <;> omega)
            have e3 : ((a : Int) + k).tmod 8 = (((a + k) % 8 : Nat) : Int) := rfl
            have e4 : IntKind.i64.wrap (2 + (((a + k) / 8 : Nat) : Int)) = ((2 + (a + k) / 8 : Nat) : Int) := by
              have : (2 : Int) + (((a + k) / 8 : Nat) : Int) = ((2 + (a + k) / 8 : Nat) : Int) := by omega
              rw [this]
              exact IntWalk.i64_in _ (by constructor <;> omega)
            have hq2 : 2 + (a + k) / 8 < t.length := by omega
            have hr8 : (a + k) % 8 < 8 := by omega
            have HN := Lib.hid hpos
            generalize hQ : 2 + (a + k) / 8 = q at *
            generalize hR : (a + k) % 8 = r at *
            generalize hZ : (a + k) / 8 = z at *
            obtain ⟨y, hy⟩ : ∃ y : UInt8, y.toNat = x.toNat ^^^ 2 ^ r :=
              ⟨UInt8.ofNat (x.toNat ^^^ 2 ^ r), by
                have h2 : 2 ^ r < 2 ^ 8 := Nat.pow_lt_pow_right (by omega) hr8
                have h3 : x.toNat ^^^ 2 ^ r < 2 ^ 8 := Nat.xor_lt_two_pow (n := 8) hx8 h2
                rw [UInt8.toNat_ofNat']; omega⟩
            have e5 : IntKind.u8.wrap ((2 : Int) ^ r) = (2 : Int) ^ r := by
              have h2 : 2 ^ r < 2 ^ 8 := Nat.pow_lt_pow_right (by omega) hr8
              have h3 : (2 : Int) ^ r = ((2 ^ r : Nat) : Int) := by rw [Int.natCast_pow]; rfl
              obtain ⟨z, hz⟩ : ∃ z, z = 2 ^ r := ⟨_, rfl⟩
              rw [IntKind.wrap_u8', h3, ← hz]
              rw [← hz] at h2
              omega
            have e6 : bits .xor .u8 (x.toNat : Int) ((2 : Int) ^ r) = (y.toNat : Int) := by
              have h2 : 2 ^ r < 2 ^ 8 := Nat.pow_lt_pow_right (by omega) hr8
              have h3 : (2 : Int) ^ r = ((2 ^ r : Nat) : Int) := by rw [Int.natCast_pow]; rfl
              rw [h3, u8_xor_nat _ _ hx8 h2, ← hy]
            have HY := Lib.hid hy
            clear hy
            have HQ : Hid (2 + (a + k) / 8 = q) := by show _ = _; rw [hZ]; exact hQ
            have HR := Lib.hid hR
            clear hbel hblk htu hQ hR hq hZ hpos
            generalize hW2 : wr.drew = w2 at *
            have HW2 := Lib.hid hW2
            clear hW2
            go_wp2
            refine wp_region_still_tail 21 (by kernel_rfl) (by kernel_rfl) ?_
            simp only [List.take_succ_cons, List.take_zero, List.drop_succ_cons, List.drop_zero]
            have hW3 : ({ wr with drawn := wr.drawn + 1 } : World) = w2 := HW2.out
            rw [hW3]
            clear hW3
            repeat still_step
            refine wpStill_nil ?_
            go_wp2
            have HTU2 : Turned t (bs.set q y) (16 + a) (k + 1) m := flip_next HTU.out HN.out HD.out HQ.out HR.out HX.out HY.out
            have HBK2 := HBK.out.set q y
            have HBL2 : Below w1.heap.size W (w2.setCell ⟨w1.heap.size, q, none⟩ (.int .u8 (y.toNat : Nat))) := by
              rw [← HW2.out]
              exact (HBL.out.trans (Below.refl _ _).drew).setCell (Nat.le_refl _) _
            go_roundw
            case rel => exact ⟨k + 1, true, bs.set q y, by omega, by omega, by go_num, rfl, by rw [HMN.out, HD.out]; simp, HTU2, HBK2, HBL2⟩
            case measure => simp [intOf]; omega
        · have hlen : bs.length = t.length := htu.1
          have hcv2 : (convert 40 9 (.slice (some ⟨w1.heap.size, 0, none⟩) t.length cap)).run Tryd.prog wr = .ok (.string (str bs)) wr := by
            have := run_convert_bytes_back (P := Tryd.prog) wr 40 9 5 ⟨w1.heap.size, 0, none⟩ cap bs Tryd.underlying40 Tryd.underlying5 Tryd.underlying9 (fun j hj => by
              have e : (⟨w1.heap.size, 0, none⟩ : Addr).add j = ⟨w1.heap.size, j, none⟩ := by unfold Addr.add; split <;> simp_all
              rw [e, hblk.cell j hj])
            rwa [hlen] at this
          have hap := str_append bs more
          have hsb := str_size bs
          rw [hlen] at hsb
          have HBM : Hid ((bs ++ more).length ≤ 1099511627776) := by show _ ≤ _; rw [List.length_append, hlen]; omega
          have HTR := Lib.hid (tab_b HTW.out (by have := HT1.out.1; exact this) hbel)
          have HBL := Lib.hid (HBW.out.trans (hbel.mono (Nat.le_of_lt HWL.out)))
          have HSR := Lib.hid (show w.heap.size ≤ wr.heap.size from Nat.le_trans (Nat.le_of_lt HWL.out) (Nat.le_trans HSW.out hbel.size))
          have hdec : (k = 32 ∨ k < 32 ∧ decide ((a : Int) + k < 32) = false) := by
            rcases hexit with ⟨h1, h2⟩ | h1
            · exact .inr ⟨h1, by simp; omega⟩
            · exact .inl h1
          have hres : tb = false ∨ (tb = true ∧ fe (bs ++ more) = 9) := by
            cases tb
            · exact .inl rfl
            · refine .inr ⟨rfl, turned_frame s bs more (16 + a) k m (by omega) (by rw [HFT.out]; exact htu) hk (fun h => by have := hc0.2 h; cases this) ?_⟩
              exact .inl ⟨by omega, by omega⟩
          clear htu hblk hbel hc0 hexit hlen c1
          rcases hdec with rfl | ⟨hk32, hdec⟩
          all_goals
            rcases hres with rfl | ⟨rfl, hfe⟩
            · go_wp2_with fail
              refine (worksL _ HTR.out).mono ?_
              rintro E w3 ⟨rfl, hg3⟩
              go_wp2
              go_ret
              exact ⟨rfl, below_on HBL.out hg3 HSR.out⟩
            · go_wp2_with fail
              refine (failsL (bs ++ more) 9 _ HBM.out HTR.out hfe (by decide)).mono ?_
              rintro E w3 ⟨rfl, hg3⟩
              have HT3 := Lib.hid (tab_grown HTR.out hg3)
              have HB3 := Lib.hid (below_on HBL.out hg3 HSR.out)
              have HS3 := Lib.hid (Nat.le_trans HSR.out hg3.size)
              clear hg3
              go_wp2_with fail
              refine (worksL _ HT3.out).mono ?_
              rintro E w4 ⟨rfl, hg4⟩
              go_wp2
              go_ret
              exact ⟨rfl, below_on HB3.out hg4 HS3.out⟩
    · skip
      go_wp2
      rw [hpl2, show decide ((a : Int) < 32) = false from decide_eq_false (by omega)]
      clear hcv hpl hpl2 e2
      go_loopw [11, 12] (fun b i wr => TurnRel W w1.heap.size t a m (8 * (t.length - 2)) b i wr) (fun _ i _ => 32 - (intOf i).toNat)
      case atStart => exact ⟨0, false, t, by omega, by omega, rfl, rfl, by simp [Nat.mod_one], turned_start t (16 + a) m, hbk.out, Below.refl _ _⟩
      case round =>
        obtain ⟨k, tb, bs, hk, hak, rfl, rfl, hc0, htu, hblk, hbel⟩ := hrel
        have c1 := (hbel.cell (p := ⟨w.heap.size, 1, none⟩) HWL.out).trans cB.out
        have hc8 : (k < 32 ∧ a + k < (8 * (t.length - 2))) ∨ (k < 32 ∧ a + k = (8 * (t.length - 2))) ∨ k = 32 := by omega
        rcases hc8 with ⟨hk32, hlt⟩ | hexit
        · have hmk : m / 2 ^ k < 4294967296 := Nat.lt_of_le_of_lt (Nat.div_le_self _ _) hm
          have hand0 := u32_and_nat (m / 2 ^ k) 1 hmk (by omega)
          rw [nat_mask1, Int.natCast_ediv, Int.natCast_pow] at hand0
          have hd1 : m / 2 ^ k % 2 = 0 ∨ m / 2 ^ k % 2 = 1 := by omega
          rcases hd1 with hd1 | hd1
          · have hand : bits .and .u32 ((m : Int) / 2 ^ k) 1 = 0 := by rw [hd1] at hand0; exact hand0
            have HST := Lib.hid (turned_stay htu hd1)
            have HMN := Lib.hid (mod_next m k)
            have HD := Lib.hid hd1
            have HC := Lib.hid hc0
            clear hand0 hd1 hc0
            go_wp2
            go_roundw
            case rel => exact ⟨k + 1, tb, bs, by omega, by omega, by go_num, rfl, by rw [HMN.out, HC.out]; exact ⟨fun h => ⟨h, HD.out⟩, fun h => h.1⟩, HST.out, hblk, hbel⟩
            case measure => simp [intOf]; omega
          · have hand : bits .and .u32 ((m : Int) / 2 ^ k) 1 = 1 := by rw [hd1] at hand0; exact hand0
            have HMN := Lib.hid (mod_next m k)
            have HD := Lib.hid hd1
            have HC := Lib.hid hc0
            clear hand0 hd1 hc0
            have hpos : 16 + a + k < 8 * t.length := by omega
            have hq : 2 + (a + k) / 8 < bs.length := by rw [htu.1]; omega
            have hcell := hblk.drew.cell _ hq
            have hfr := hblk.drew.frozen _ hq
            have HX : Hid ((bs[2 + (a + k) / 8]'hq).toNat = (bs.getD (2 + (a + k) / 8) 0).toNat) := by show _ = _; simp [List.getD_eq_getElem?_getD, hq]
            generalize bs[2 + (a + k) / 8]'hq = x at *
            have hx8 := UInt8.toNat_lt x
            have HBL := Lib.hid hbel
            have HBK := Lib.hid hblk.drew
            have HTU := Lib.hid htu
            have e1 : IntKind.i64.wrap ((a : Int) + (k : Int)) = (a : Int) + k := IntWalk.i64_in _ (by constructor <;> omega)
            have e2 : IntKind.i64.wrap (((a : Int) + k).tdiv 8) = (((a + k) / 8 : Nat) : Int) := by
              have : ((a : Int) + k).tdiv 8 = (((a + k) / 8 : Nat) : Int) := rfl
              rw [this]
              exact IntWalk.i64_in _ (by constructor <;> omega)
            have e3 : ((a : Int) + k).tmod 8 = (((a + k) % 8 : Nat) : Int) := rfl
            have e4 : IntKind.i64.wrap (2 + (((a + k) / 8 : Nat) : Int)) = ((2 + (a + k) / 8 : Nat) : Int) := by
              have : (2 : Int) + (((a + k) / 8 : Nat) : Int) = ((2 + (a + k) / 8 : Nat) : Int) := by omega
              rw [this]
              exact IntWalk.i64_in _ (by constructor <;> omega)
            have hq2 : 2 + (a + k) / 8 < t.length := by omega
            have hr8 : (a + k) % 8 < 8 := by omega
            have HN := Lib.hid hpos
            generalize hQ : 2 + (a + k) / 8 = q at *
            generalize hR : (a + k) % 8 = r at *
            generalize hZ : (a + k) / 8 = z at *
            obtain ⟨y, hy⟩ : ∃ y : UInt8, y.toNat = x.toNat ^^^ 2 ^ r :=
              ⟨UInt8.ofNat (x.toNat ^^^ 2 ^ r), by
                have h2 : 2 ^ r < 2 ^ 8 := Nat.pow_lt_pow_right (by omega) hr8
                have h3 : x.toNat ^^^ 2 ^ r < 2 ^ 8 := Nat.xor_lt_two_pow (n := 8) hx8 h2
                rw [UInt8.toNat_ofNat']; omega⟩
            have e5 : IntKind.u8.wrap ((2 : Int) ^ r) = (2 : Int) ^ r := by
              have h2 : 2 ^ r < 2 ^ 8 := Nat.pow_lt_pow_right (by omega) hr8
              have h3 : (2 : Int) ^ r = ((2 ^ r : Nat) : Int) := by rw [Int.natCast_pow]; rfl
              obtain ⟨z, hz⟩ : ∃ z, z = 2 ^ r := ⟨_, rfl⟩
              rw [IntKind.wrap_u8', h3, ← hz]
              rw [← hz] at h2
              omega
            have e6 : bits .xor .u8 (x.toNat : Int) ((2 : Int) ^ r) = (y.toNat : Int) := by
              have h2 : 2 ^ r < 2 ^ 8 := Nat.pow_lt_pow_right (by omega) hr8
              have h3 : (2 : Int) ^ r = ((2 ^ r : Nat) : Int) := by rw [Int.natCast_pow]; rfl
              rw [h3, u8_xor_nat _ _ hx8 h2, ← hy]
            have HY := Lib.hid hy
            clear hy
            have HQ : Hid (2 + (a + k) / 8 = q) := by show _ = _; rw [hZ]; exact hQ
            have HR := Lib.hid hR
            clear hbel hblk htu hQ hR hq hZ hpos
            generalize hW2 : wr.drew = w2 at *
            have HW2 := Lib.hid hW2
            clear hW2
            go_wp2
            refine wp_region_still_tail 21 (by kernel_rfl) (by kernel_rfl) ?_
            simp only [List.take_succ_cons, List.take_zero, List.drop_succ_cons, List.drop_zero]
            have hW3 : ({ wr with drawn := wr.drawn + 1 } : World) = w2 := HW2.out
            rw [hW3]
            clear hW3
            repeat still_step
            refine wpStill_nil ?_
            go_wp2
            have HTU2 : Turned t (bs.set q y) (16 + a) (k + 1) m := flip_next HTU.out HN.out HD.out HQ.out HR.out HX.out HY.out
            have HBK2 := HBK.out.set q y
            have HBL2 : Below w1.heap.size W (w2.setCell ⟨w1.heap.size, q, none⟩ (.int .u8 (y.toNat : Nat))) := by
              rw [← HW2.out]
              exact (HBL.out.trans (Below.refl _ _).drew).setCell (Nat.le_refl _) _
            go_roundw
            case rel => exact ⟨k + 1, true, bs.set q y, by omega, by omega, by go_num, rfl, by rw [HMN.out, HD.out]; simp, HTU2, HBK2, HBL2⟩
            case measure => simp [intOf]; omega
        · have hlen : bs.length = t.length := htu.1
          have hcv2 : (convert 40 9 (.slice (some ⟨w1.heap.size, 0, none⟩) t.length cap)).run Tryd.prog wr = .ok (.string (str bs)) wr := by
            have := run_convert_bytes_back (P := Tryd.prog) wr 40 9 5 ⟨w1.heap.size, 0, none⟩ cap bs Tryd.underlying40 Tryd.underlying5 Tryd.underlying9 (fun j hj => by
              have e : (⟨w1.heap.size, 0, none⟩ : Addr).add j = ⟨w1.heap.size, j, none⟩ := by unfold Addr.add; split <;> simp_all
              rw [e, hblk.cell j hj])
            rwa [hlen] at this
          have hap := str_append bs more
          have hsb := str_size bs
          rw [hlen] at hsb
          have HBM : Hid ((bs ++ more).length ≤ 1099511627776) := by show _ ≤ _; rw [List.length_append, hlen]; omega
          have HTR := Lib.hid (tab_b HTW.out (by have := HT1.out.1; exact this) hbel)
          have HBL := Lib.hid (HBW.out.trans (hbel.mono (Nat.le_of_lt HWL.out)))
          have HSR := Lib.hid (show w.heap.size ≤ wr.heap.size from Nat.le_trans (Nat.le_of_lt HWL.out) (Nat.le_trans HSW.out hbel.size))
          have hdec : (k = 32 ∨ k < 32 ∧ decide ((a : Int) + k < 8 * ((t.length - 2 : Nat) : Int)) = false) := by
            rcases hexit with ⟨h1, h2⟩ | h1
            · exact .inr ⟨h1, by simp; omega⟩
            · exact .inl h1
          have hres : tb = false ∨ (tb = true ∧ fe (bs ++ more) = 9) := by
            cases tb
            · exact .inl rfl
            · refine .inr ⟨rfl, turned_frame s bs more (16 + a) k m (by omega) (by rw [HFT.out]; exact htu) hk (fun h => by have := hc0.2 h; cases this) ?_⟩
              exact .inr ⟨by omega, by have := HL.out; omega⟩
          clear htu hblk hbel hc0 hexit hlen c1
          rcases hdec with rfl | ⟨hk32, hdec⟩
          all_goals
            rcases hres with rfl | ⟨rfl, hfe⟩
            · go_wp2_with fail
              refine (worksL _ HTR.out).mono ?_
              rintro E w3 ⟨rfl, hg3⟩
              go_wp2
              go_ret
              exact ⟨rfl, below_on HBL.out hg3 HSR.out⟩
            · go_wp2_with fail
              refine (failsL (bs ++ more) 9 _ HBM.out HTR.out hfe (by decide)).mono ?_
              rintro E w3 ⟨rfl, hg3⟩
              have HT3 := Lib.hid (tab_grown HTR.out hg3)
              have HB3 := Lib.hid (below_on HBL.out hg3 HSR.out)
              have HS3 := Lib.hid (Nat.le_trans HSR.out hg3.size)
              clear hg3
              go_wp2_with fail
              refine (worksL _ HT3.out).mono ?_
              rintro E w4 ⟨rfl, hg4⟩
              go_wp2
              go_ret
              exact ⟨rfl, below_on HB3.out hg4 HS3.out⟩
end Go.Proofs.YtgbieihobcindaaDoor
