/- The statement CrcBurst of layer 3: the Go function returns true. Conditions: the table of four steps lies in its variable. -/
import Derived.Test.YtkemjpiioigilaaDoorLawB
import Derived.Test.YtkemjpiioigilaaDoorBit
import Derived.Deep.QuietTactic
import Derived.BigQuiet
import Derived.BigRegion
import Derived.StillTailTactics
import Derived.IntWalk
namespace Go.Proofs.YtkemjpiioigilaaDoor
open Go.RowKit
set_option linter.unusedVariables false

/-- A round of CrcBurst, at its head: so many bits were looked at, so many of them turned. -/
def BurstRel (W : World) (g : Nat) (s : List UInt8) (a m : Nat) (t i : Value) (wr : World) : Prop :=
  ∃ (k c : Nat) (bs : List UInt8), k ≤ 32 ∧ a + k ≤ 8 * s.length ∧ i = .int .i64 k ∧ t = .int .i64 c ∧ c ≤ k ∧ (c = 0 ↔ m % 2 ^ k = 0) ∧ Turned s bs a k m ∧ Blk wr g 5 bs ∧ Below g W wr
theorem wrap_place (p n : Nat) (hn : 0 < n) (hn2 : n ≤ 160000) : wrap64 ((p : Int) % (n : Int)) = ((p % n : Nat) : Int) := by
  have : p % n < n := Nat.mod_lt _ hn
  rw [← Int.natCast_emod]
  exact IntWalk.wrap64_in _ (by constructor <;> omega)
theorem below_of_none {w w' : World} (h : w.grownBy w' none) : Below w.heap.size w w' := ⟨h.os, h.tape, h.output, h.size, fun k hk => h.block k hk (by simp)⟩
set_option maxHeartbeats 1000000 in
theorem lawBurst (s : List UInt8) (p m : Nat) (w : World) (hs : s.length ≤ maxLen) (hp : p < 4294967296) (hm : m < 4294967296) (ht : Tab w) :
    Calls Tryd.prog 7 #[.string (str s), .int .u32 p, .int .u32 m] w (Yes w) := by
  have HT := Lib.hid ht
  have hsz := str_size s
  have HS := Lib.hid hs
  unfold maxLen at hs
  clear ht
  have h3 : 20000 < s.length ∨ (s.length = 0) ∨ (s.length ≤ 20000 ∧ 0 < s.length) := by omega
  rcases h3 with h3 | h3 | ⟨h3, h4⟩
  · go_enter Tryd.func7, Tryd.ntmps7
    go_wp2_with fail
    refine (awake _ HT.out).mono ?_
    rintro E w1 ⟨rfl, hg1⟩
    go_wp2
    go_ret
    exact yes_of hg1
  · have h5 : ¬ 20000 < s.length := by omega
    go_enter Tryd.func7, Tryd.ntmps7
    go_wp2_with fail
    refine (awake _ HT.out).mono ?_
    rintro E w1 ⟨rfl, hg1⟩
    go_wp2
    go_ret
    exact yes_of hg1
  · have hcv := Lib.run_convert_string_bytes (P := Tryd.prog) w 9 30 5 (str s) Tryd.underlying9 Tryd.underlying30 Tryd.underlying5
    have hbk := Lib.hid (blk_bytes w 5 s)
    have hg := Lib.hid (grown_bytes w 5 (str s) none)
    have hne : ((s.length : Int) == 0) = false := beq_eq_false_iff_ne.2 (by omega)
    generalize Lib.bytesWorld w 5 (str s) = W at *
    generalize grownCap w (str s).size 0 5 = cap at *
    have hpl : wrap64 ((p : Int) % (8 * (s.length : Int))) = ((p % (8 * s.length) : Nat) : Int) := wrap_place p (8 * s.length) (by omega) (by omega)
    have hal : p % (8 * s.length) < 8 * s.length := Nat.mod_lt _ (by omega)
    generalize ha : p % (8 * s.length) = a at *
    have HA := Lib.hid ha
    clear ha
    have hd : decide (20000 < (s.length : Int)) = false := by simp; omega
    go_enter Tryd.func7, Tryd.ntmps7
    go_wp2
    rw [hpl]
    clear hcv hpl
    go_loopw [9, 10] (fun t i wr => BurstRel w w.heap.size s a m t i wr) (fun _ i _ => 32 - (intOf i).toNat)
    case atStart => exact ⟨0, 0, s, by omega, by omega, rfl, rfl, by omega, by simp [Nat.mod_one], turned_start s a m, hbk.out, below_of_none hg.out⟩
    case round =>
      obtain ⟨k, c, bs, hk, hak, rfl, rfl, hck, hc0, htu, hblk, hbel⟩ := hrel
      have hc8 : (k < 32 ∧ a + k < 8 * s.length) ∨ (k < 32 ∧ a + k = 8 * s.length) ∨ k = 32 := by omega
      rcases hc8 with ⟨hk32, hlt⟩ | hexit
      · have hmk : m / 2 ^ k < 4294967296 := Nat.lt_of_le_of_lt (Nat.div_le_self _ _) hm
        have hand0 := u32_and_nat (m / 2 ^ k) 1 hmk (by omega)
        rw [nat_mask1, Int.natCast_ediv, Int.natCast_pow] at hand0
        have hd1 : m / 2 ^ k % 2 = 0 ∨ m / 2 ^ k % 2 = 1 := by omega
        rcases hd1 with hd1 | hd1
        · have hand : bits .and .u32 ((m : Int) / 2 ^ k) 1 = 0 := by rw [hd1] at hand0; exact hand0
          have HST := Lib.hid (turned_stay htu hd1)
          have HMN := Lib.hid (mod_next m k)
          have HD := Lib.hid hd1
          have HC := Lib.hid hc0
          clear hand0 hd1 hc0
          go_wp2
          go_roundw
          case rel => exact ⟨k + 1, c, bs, by omega, by omega, by go_num, rfl, by omega, by rw [HMN.out, HC.out]; exact ⟨fun h => ⟨h, HD.out⟩, fun h => h.1⟩, HST.out, hblk, hbel⟩
          case measure => simp [intOf]; omega
        · have hand : bits .and .u32 ((m : Int) / 2 ^ k) 1 = 1 := by rw [hd1] at hand0; exact hand0
          have HMN := Lib.hid (mod_next m k)
          have HD := Lib.hid hd1
          have HC := Lib.hid hc0
          clear hand0 hd1 hc0
          have hq : (a + k) / 8 < bs.length := by rw [htu.1]; omega
          have hcell := hblk.drew.cell _ hq
          have hfr := hblk.drew.frozen _ hq
          have HX : Hid ((bs[(a + k) / 8]'hq).toNat = (bs.getD ((a + k) / 8) 0).toNat) := by show _ = _; simp [List.getD_eq_getElem?_getD, hq]
          generalize bs[(a + k) / 8]'hq = x at *
          have hx8 := UInt8.toNat_lt x
          have HBL := Lib.hid hbel
          have HBK := Lib.hid hblk.drew
          have HTU := Lib.hid htu
          have e1 : IntKind.i64.wrap ((a : Int) + (k : Int)) = (a : Int) + k := IntWalk.i64_in _ (by constructor <;> omega)
          have e2 : IntKind.i64.wrap (((a : Int) + k).tdiv 8) = (((a + k) / 8 : Nat) : Int) := by
            have : ((a : Int) + k).tdiv 8 = (((a + k) / 8 : Nat) : Int) := rfl
            rw [this]
            exact IntWalk.i64_in _ (by constructor <;> omega)
          have e3 : ((a : Int) + k).tmod 8 = (((a + k) % 8 : Nat) : Int) := rfl
          have hq2 : (a + k) / 8 < s.length := by omega
          have hr8 : (a + k) % 8 < 8 := by omega
          have HN := Lib.hid hlt
          generalize hQ : (a + k) / 8 = q at *
          generalize hR : (a + k) % 8 = r at *
          obtain ⟨y, hy⟩ : ∃ y : UInt8, y.toNat = x.toNat ^^^ 2 ^ r :=
            ⟨UInt8.ofNat (x.toNat ^^^ 2 ^ r), by
              have h2 : 2 ^ r < 2 ^ 8 := Nat.pow_lt_pow_right (by omega) hr8
              have h3 : x.toNat ^^^ 2 ^ r < 2 ^ 8 := Nat.xor_lt_two_pow (n := 8) hx8 h2
              rw [UInt8.toNat_ofNat']; omega⟩
          have e5 : IntKind.u8.wrap ((2 : Int) ^ r) = (2 : Int) ^ r := by
            have h2 : 2 ^ r < 2 ^ 8 := Nat.pow_lt_pow_right (by omega) hr8
            have h3 : (2 : Int) ^ r = ((2 ^ r : Nat) : Int) := by rw [Int.natCast_pow]; rfl
            obtain ⟨z, hz⟩ : ∃ z, z = 2 ^ r := ⟨_, rfl⟩
            rw [IntKind.wrap_u8', h3, ← hz]
            rw [← hz] at h2
            omega
          have e6 : bits .xor .u8 (x.toNat : Int) ((2 : Int) ^ r) = (y.toNat : Int) := by
            have h2 : 2 ^ r < 2 ^ 8 := Nat.pow_lt_pow_right (by omega) hr8
            have h3 : (2 : Int) ^ r = ((2 ^ r : Nat) : Int) := by rw [Int.natCast_pow]; rfl
            rw [h3, u8_xor_nat _ _ hx8 h2, ← hy]
          have HY := Lib.hid hy
          clear hy
          have HQ := Lib.hid hQ
          have HR := Lib.hid hR
          have HQB := Lib.hid hq
          clear hbel hblk htu hQ hR hq
          generalize hW2 : wr.drew = w2 at *
          have HW2 := Lib.hid hW2
          clear hW2
          go_wp2
          refine wp_region_still_tail 19 (by kernel_rfl) (by kernel_rfl) ?_
          simp only [List.take_succ_cons, List.take_zero, List.drop_succ_cons, List.drop_zero]
          have hW3 : ({ wr with drawn := wr.drawn + 1 } : World) = w2 := HW2.out
          rw [hW3]
          clear hW3
          repeat still_step
          refine wpStill_nil ?_
          go_wp2
          have HTU2 : Turned s (bs.set q y) a (k + 1) m := by
            have := turned_flip HTU.out HN.out HD.out y (by rw [HY.out, HR.out, HX.out, HQ.out])
            rwa [HQ.out] at this
          have HBK2 := HBK.out.set q y
          have HBL2 : Below w.heap.size w (w2.setCell ⟨w.heap.size, q, none⟩ (.int .u8 (y.toNat : Nat))) := by
            rw [← HW2.out]
            exact (HBL.out.trans (Below.refl _ _).drew).setCell (Nat.le_refl _) _
          go_roundw
          case rel => exact ⟨k + 1, c + 1, bs.set q y, by omega, by omega, by go_num, by go_num, by omega, by rw [HMN.out, HD.out]; simp, HTU2, HBK2, HBL2⟩
          case measure => simp [intOf]; omega
      · have hlen : bs.length = s.length := htu.1
        have hcv2 : (convert 30 9 (.slice (some ⟨w.heap.size, 0, none⟩) s.length cap)).run Tryd.prog wr = .ok (.string (str bs)) wr := by
          have := run_convert_bytes_back (P := Tryd.prog) wr 30 9 5 ⟨w.heap.size, 0, none⟩ cap bs Tryd.underlying30 Tryd.underlying5 Tryd.underlying9 (fun j hj => by
            have e : (⟨w.heap.size, 0, none⟩ : Addr).add j = ⟨w.heap.size, j, none⟩ := by unfold Addr.add; split <;> simp_all
            rw [e, hblk.cell j hj])
          rwa [hlen] at this
        have HBS : Hid (bs.length ≤ maxLen) := by show _ ≤ _; rw [hlen]; exact HS.out
        have HTR := Lib.hid (tab_below HT.out hbel)
        have HBL := Lib.hid hbel
        have hdec : (k = 32 ∨ k < 32 ∧ decide ((a : Int) + k < 8 * (s.length : Int)) = false) := by
          rcases hexit with ⟨h1, h2⟩ | h1
          · exact .inr ⟨h1, by simp; omega⟩
          · exact .inl h1
        have hres : (m % 2 ^ k = 0 ∧ bs = s ∧ c = 0) ∨ (((upd 0 bs : Nat) : Int) == ((upd 0 s : Nat) : Int)) = false ∧ ((c : Int) == 0) = false := by
          by_cases h0 : m % 2 ^ k = 0
          · exact .inl ⟨h0, turned_none htu hak h0, hc0.2 h0⟩
          · refine .inr ⟨beq_eq_false_iff_ne.2 fun he => h0 (turned_sum htu hk hak (by omega)), beq_eq_false_iff_ne.2 fun he => h0 (hc0.1 (by omega))⟩
        clear htu hblk hbel hc0 hexit hlen
        rcases hdec with rfl | ⟨hk32, hdec⟩
        all_goals
          rcases hres with ⟨_, rfl, rfl⟩ | ⟨ht1, ht2⟩
          all_goals
            go_wp2_with fail
            refine (sum _ _ HBS.out HTR.out).mono ?_
            rintro E w1 ⟨rfl, hg1⟩
            have HG1 := Lib.hid hg1
            have HT1 := Lib.hid (tab_grown HTR.out hg1)
            clear hg1
            go_wp2_with fail
            refine (sum _ _ HS.out HT1.out).mono ?_
            rintro E w2 ⟨rfl, hg2⟩
            have HG2 := Lib.hid (HG1.out.trans hg2)
            have HT2 := Lib.hid (tab_grown HT1.out hg2)
            clear hg2
            go_wp2_with fail
            refine (awake _ HT2.out).mono ?_
            rintro E w3 ⟨rfl, hg3⟩
            go_wp2
            go_ret
            exact ⟨rfl, HBL.out.trans ((below_of_none (HG2.out.trans hg3)).mono HBL.out.size)⟩
end Go.Proofs.YtkemjpiioigilaaDoor
