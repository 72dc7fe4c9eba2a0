/- Acts one behind the other over a power: what they make of it; run, writes. -/
import Derived.Test.YthjhjbiihhpnfaaGreatPo
import Derived.IntWalk
namespace Go.Proofs.YthjhjbiihhpnfaaGreat
open Go.RowKit
set_option linter.unusedVariables false
set_option linter.unusedSimpArgs false
set_option maxRecDepth 100000

def isW (a : Act3) : Bool := decide (a.c % 8 < 5)
def wkE (q : Nat) (E : List Ent) (a : Act3) : List Ent := wrE (a.c % 8) q E a.n a.t
def foldE (q : Nat) (l : List Act3) (E : List Ent) : List Ent := l.foldl (wkE q) E
def actW (q : Nat) (p : Pw) (a : Act3) : Pw := if a.c % 8 < 5 then p.wr (a.c % 8) q a.n a.t else p
def runP (q : Nat) (l : List Act3) (p : Pw) : Pw := l.foldl (actW q) p
theorem runP_cons (q : Nat) (a : Act3) (l : List Act3) (p : Pw) : runP q (a :: l) p = runP q l (actW q p a) := rfl
theorem runP_app (q : Nat) (a b : List Act3) (p : Pw) : runP q (a ++ b) p = runP q b (runP q a p) := List.foldl_append ..
theorem actW_ks (q : Nat) (p : Pw) (a : Act3) : (actW q p a).ks = p.ks := by unfold actW; split; exact after_ks _ _; rfl
theorem runP_ks (q : Nat) : ∀ (l : List Act3) (p : Pw), (runP q l p).ks = p.ks
  | [], p => rfl
  | a :: l, p => by rw [runP_cons, runP_ks q l, actW_ks]
theorem actW_n (q : Nat) (p : Pw) (a : Act3) : (actW q p a).n ≤ p.n + 1 := by unfold actW; split; exact after_n _ _; exact Nat.le_succ _
theorem runP_n (q : Nat) : ∀ (l : List Act3) (p : Pw), (runP q l p).n ≤ p.n + l.length
  | [], p => Nat.le_refl _
  | a :: l, p => by
    rw [runP_cons]
    have h1 := runP_n q l (actW q p a)
    have h2 := actW_n q p a
    rw [List.length_cons]; omega
theorem runP_off (q : Nat) : ∀ (l : List Act3) (p : Pw), p.off = true → runP q l p = p
  | [], p, _ => rfl
  | a :: l, p, h => by
    have h1 : actW q p a = p := by unfold actW; split; (show p.after _ = p; unfold Pw.after; rw [h]; rfl); rfl
    rw [runP_cons, h1, runP_off q l p h]
theorem actW_on (q : Nat) (p : Pw) (a : Act3) (h : p.off = false) (ha : isW a = true) (hf : (p.n : Int) ≠ p.fu) : actW q p a = { p with n := p.n + 1, E := wkE q p.E a } := by
  unfold actW
  rw [if_pos (by simpa [isW] using ha)]
  show p.after _ = _
  unfold Pw.after
  rw [h, if_neg hf]
  rfl
theorem actW_last (q : Nat) (p : Pw) (a : Act3) (h : p.off = false) (ha : isW a = true) (hf : (p.n : Int) = p.fu) : actW q p a = { p with n := p.n + 1, off := true, E := aCrash p.ks (if oddK p.ks then wkE q p.E a else p.E) } := by
  unfold actW
  rw [if_pos (by simpa [isW] using ha)]
  show p.after _ = _
  unfold Pw.after
  rw [h, if_pos hf]
  rfl
theorem runP_on (q : Nat) : ∀ (l : List Act3) (p : Pw), p.off = false → (∀ a ∈ l, isW a = true) → (p.fu < p.n ∨ ((p.n + l.length : Nat) : Int) ≤ p.fu) → runP q l p = { p with n := p.n + l.length, E := foldE q l p.E }
  | [], p, _, _, _ => rfl
  | a :: l, p, h, hw, hf => by
    rw [List.length_cons] at hf
    rw [runP_cons, actW_on q p a h (hw a (by simp)) (by omega)]
    rw [runP_on q l { p with n := p.n + 1, E := wkE q p.E a } h (fun b hb => hw b (by simp [hb])) (by show p.fu < ((p.n + 1 : Nat) : Int) ∨ ((p.n + 1 + l.length : Nat) : Int) ≤ p.fu; omega)]
    show ({ p with n := p.n + 1 + l.length, E := _ } : Pw) = { p with n := p.n + (l.length + 1), E := _ }
    rw [show p.n + 1 + l.length = p.n + (l.length + 1) by omega]
    rfl
/-- The fuse's write is among them. -/
theorem runP_cut (q n : Nat) (ks : List Int) (l : List Act3) (hn : n < l.length) (hw : ∀ a ∈ l, isW a = true) :
    runP q l ⟨n, ks, 0, false, []⟩ = ⟨n, ks, n + 1, true, aCrash ks (foldE q (l.take (if oddK ks then n + 1 else n)) [])⟩ := by
  have hl : l = l.take n ++ l[n] :: l.drop (n + 1) := by rw [List.getElem_cons_drop, List.take_append_drop]
  have h1 : runP q (l.take n) ⟨n, ks, 0, false, []⟩ = ⟨n, ks, n, false, foldE q (l.take n) []⟩ := by
    have := runP_on q (l.take n) ⟨n, ks, 0, false, []⟩ rfl (fun a ha => hw a (List.mem_of_mem_take ha)) (.inr (by rw [List.length_take]; show ((0 + min n l.length : Nat) : Int) ≤ (n : Int); omega))
    rw [this, List.length_take, show min n l.length = n by omega]
    simp
  conv => lhs; rw [hl]
  rw [runP_app, h1, runP_cons, actW_last q _ _ rfl (hw _ (List.getElem_mem _)) rfl, runP_off q _ _ rfl]
  show (⟨_, ks, n + 1, true, aCrash ks (if oddK ks then wkE q (foldE q (l.take n) []) l[n] else foldE q (l.take n) [])⟩ : Pw) = _
  cases oddK ks
  · rfl
  · have : foldE q (l.take (n + 1)) [] = wkE q (foldE q (l.take n) []) l[n] := by
      unfold foldE
      rw [List.take_succ_eq_append_getElem hn, List.foldl_append]
      rfl
    simp only [if_true, this]
theorem bits_and_one (k : Int) : bits .and .i64 k 1 = k % 2 := by
  show IntKind.i64.wrap (((BitVec.ofInt 64 k) &&& (BitVec.ofInt 64 1)).toNat : Int) = _
  rw [BitVec.toNat_and, BitVec.toNat_ofInt, show (BitVec.ofInt 64 1).toNat = 1 from by decide, Nat.and_one_is_mod]
  rw [IntWalk.i64_in _ (by omega)]
  omega
theorem odd_mod (k : Int) (r : List Int) : oddK (k :: r) = (k % 2 == 1) := by
  show (k.tmod 2 != 0) = _
  rw [Int.tmod_eq_emod]
  by_cases h : k % 2 = 1
  · rw [h]
    split <;> decide
  · have h0 : k % 2 = 0 := by omega
    have hd : (2 : Int) ∣ k := by omega
    rw [h0]
    simp [hd]
theorem writes_c (a : Act3) (w : World) (ha : a.ok) : Calls Tryz.prog 15 #[.agg a.cs] w fun R w' => R = .returned (.bool (isW a)) ∧ Below w.heap.size w w' := by
  have hal := below_alloc w (.cells a.cs 37)
  have hcl := ha.c
  have HB := Lib.hid hal
  clear hal
  unfold Act3.cs at *
  obtain ⟨m, hm⟩ : ∃ m : Nat, a.c % 8 = m := ⟨_, rfl⟩
  have hci : (a.c : Int) % 8 = (m : Int) := by rw [← hm]; rfl
  have hW : isW a = decide (m < 5) := by unfold isW; rw [hm]
  rw [hW]
  clear hm hW ha
  by_cases h5 : m < 5
  · have h5i : (m : Int) < 5 := by omega
    go_enter Tryz.func15, Tryz.ntmps15
    go_wp2
    go_ret
    exact ⟨by simp [h5], HB.out⟩
  · have h5i : ¬ (m : Int) < 5 := by omega
    go_enter Tryz.func15, Tryz.ntmps15
    go_wp2
    go_ret
    exact ⟨by simp [h5], HB.out⟩
attribute [local go_sem ↓] ld_act3
set_option maxHeartbeats 8000000 in
theorem run_c {S : Nat → Prop} {g q kc : Nat} {ko : Option Addr} {dv : Value} {p : Pw} (l : List Act3) (lo : Option Addr) (cap : Nat) (w : World) (h : PwC S w g dv q ko kc p) (hS : ∀ x, w.heap.size ≤ x → S x) (hA : Acs3 w lo l)
    (hap : ∀ a, lo = some a → a.block < w.heap.size → ¬ (a.block = g ∨ S a.block)) (hp : p.n + l.length < 1000000) :
    Calls Tryz.prog 16 #[.pointer (some ⟨g, 0, none⟩), .slice lo l.length cap] w fun R w' => R = .returned (.tuple #[]) ∧ PwC S w' g dv q ko kc (runP q l p) ∧ Tu (fun x => x = g ∨ S x) w w' := by
  have H := Lib.hid h
  have HS := Lib.hid hS
  have HA := Lib.hid hA
  have HAP := Lib.hid hap
  have hlm : l.length < 9223372036854775808 := by omega
  have HP := Lib.hid hp
  clear h hS hA hap hp
  go_enter Tryz.func16, Tryz.ntmps16
  go_wp2
  go_loopw [4] (fun i wr => ∃ k : Nat, k ≤ l.length ∧ i = .int .i64 k ∧ Hid (PwC S wr g dv q ko kc (runP q (l.take k) p)) ∧ Hid (Tu (fun x => x = g ∨ S x) w wr)) (fun i _ => l.length - (intOf i).toNat)
  case atStart => exact ⟨0, Nat.zero_le _, rfl, H.out, Tu.refl _ w⟩
  case round =>
    obtain ⟨k, hk, rfl, HW, HT⟩ := hrel
    by_cases hlt : k < l.length
    · have i2 : (k : Int) < (l.length : Int) := by omega
      have HLT := Lib.hid hlt
      have hstep : Hid (runP q (l.take (k + 1)) p = actW q (runP q (l.take k) p) (l[k]'hlt)) := by
        show _ = _
        rw [List.take_succ_eq_append_getElem hlt, runP_app]
        rfl
      have hnn : Hid ((runP q (l.take k) p).n < 1000000) := by
        show _ < _
        have h1 := runP_n q (l.take k) p
        have h2 := HP.out
        rw [List.length_take] at h1
        omega
      obtain ⟨b, o, rfl, hok, L0'⟩ := acs3_one (HA.out.tu HT.out HAP.out) hlt
      generalize l[k]'hlt = a at *
      generalize runP q (l.take k) p = pk at *
      have l0 := L0' wr (Below.refl _ _)
      have HOK := Lib.hid hok
      have hal := Lib.hid (below_alloc wr (.cells a.cs 37))
      have HNW : Hid (∀ x, (wr.alloc (.cells a.cs 37)).heap.size ≤ x → S x) := fun x hx => HS.out x (Nat.le_trans HT.out.size (Nat.le_trans hal.out.size hx))
      have H1 := Lib.hid (HW.out.new hal.out)
      have T1 : Hid (Tu (fun x => x = g ∨ S x) w (wr.alloc (.cells a.cs 37))) := HT.out.trans (Tu.new (S := fun _ => False) hal.out) (fun _ _ h => h.elim)
      clear L0' hok HW HT hal
      obtain ⟨kk, hk8, hc⟩ : ∃ kk, kk < 8 ∧ a.c % 8 = kk := ⟨_, Nat.mod_lt _ (by decide), rfl⟩
      have hP : Hid (actW q pk a = if kk < 5 then pk.wr kk q a.n a.t else pk) := by show _ = _; unfold actW; rw [hc]
      have hci : (a.c : Int) % 8 = (kk : Int) := by rw [← hc]; rfl
      have hcl := HOK.out.c
      unfold Act3.cs at *
      have h8 : kk = 0 ∨ kk = 1 ∨ kk = 2 ∨ kk = 3 ∨ kk = 4 ∨ 5 ≤ kk := by omega
      rcases h8 with rfl | rfl | rfl | rfl | rfl | h8
      · have hPP : Hid (runP q (l.take (k + 1)) p = pk.after (wrE 0 q pk.E a.n a.t)) := hstep.out.trans hP.out
        clear hP hc hk8 hstep
        go_wp2_with fail
        refine (pcreate_c a.n a.t _ H1.out HNW.out HOK.out.n HOK.out.t hnn.out).mono ?_
        rintro R w2 ⟨rfl, hd, ht⟩
        rw [← hPP.out] at hd
        have H2 := Lib.hid hd
        have T2 := Lib.hid (T1.out.trans ht (fun _ _ h => h))
        clear hd ht l0 H1 T1 HNW hPP
        go_wp2
        go_round
        case rel => exact ⟨k + 1, HLT.out, by go_num, H2.out, T2.out⟩
        case measure => have h9 := HLT.out; simp [intOf]; omega
      · have hPP : Hid (runP q (l.take (k + 1)) p = pk.after (wrE 1 q pk.E a.n a.t)) := hstep.out.trans hP.out
        clear hP hc hk8 hstep
        go_wp2_with fail
        refine (pappend_c a.n a.t _ H1.out HNW.out HOK.out.n HOK.out.t hnn.out).mono ?_
        rintro R w2 ⟨rfl, hd, ht⟩
        rw [← hPP.out] at hd
        have H2 := Lib.hid hd
        have T2 := Lib.hid (T1.out.trans ht (fun _ _ h => h))
        clear hd ht l0 H1 T1 HNW hPP
        go_wp2
        go_round
        case rel => exact ⟨k + 1, HLT.out, by go_num, H2.out, T2.out⟩
        case measure => have h9 := HLT.out; simp [intOf]; omega
      · have hPP : Hid (runP q (l.take (k + 1)) p = pk.after (wrE 2 q pk.E a.n a.t)) := hstep.out.trans hP.out
        clear hP hc hk8 hstep
        go_wp2_with fail
        refine (psync_c a.n a.t _ H1.out HNW.out HOK.out.n HOK.out.t hnn.out).mono ?_
        rintro R w2 ⟨rfl, hd, ht⟩
        rw [← hPP.out] at hd
        have H2 := Lib.hid hd
        have T2 := Lib.hid (T1.out.trans ht (fun _ _ h => h))
        clear hd ht l0 H1 T1 HNW hPP
        go_wp2
        go_round
        case rel => exact ⟨k + 1, HLT.out, by go_num, H2.out, T2.out⟩
        case measure => have h9 := HLT.out; simp [intOf]; omega
      · have hPP : Hid (runP q (l.take (k + 1)) p = pk.after (wrE 3 q pk.E a.n a.t)) := hstep.out.trans hP.out
        clear hP hc hk8 hstep
        go_wp2_with fail
        refine (prename_c a.n a.t _ H1.out HNW.out HOK.out.n HOK.out.t hnn.out).mono ?_
        rintro R w2 ⟨rfl, hd, ht⟩
        rw [← hPP.out] at hd
        have H2 := Lib.hid hd
        have T2 := Lib.hid (T1.out.trans ht (fun _ _ h => h))
        clear hd ht l0 H1 T1 HNW hPP
        go_wp2
        go_round
        case rel => exact ⟨k + 1, HLT.out, by go_num, H2.out, T2.out⟩
        case measure => have h9 := HLT.out; simp [intOf]; omega
      · have hPP : Hid (runP q (l.take (k + 1)) p = pk.after (wrE 4 q pk.E a.n a.t)) := hstep.out.trans hP.out
        clear hP hc hk8 hstep
        go_wp2_with fail
        refine (premove_c a.n a.t _ H1.out HNW.out HOK.out.n HOK.out.t hnn.out).mono ?_
        rintro R w2 ⟨rfl, hd, ht⟩
        rw [← hPP.out] at hd
        have H2 := Lib.hid hd
        have T2 := Lib.hid (T1.out.trans ht (fun _ _ h => h))
        clear hd ht l0 H1 T1 HNW hPP
        go_wp2
        go_round
        case rel => exact ⟨k + 1, HLT.out, by go_num, H2.out, T2.out⟩
        case measure => have h9 := HLT.out; simp [intOf]; omega
      · have hPP : Hid (runP q (l.take (k + 1)) p = pk) := by
          have := hP.out
          rw [if_neg (by omega)] at this
          exact hstep.out.trans this
        have H2 : Hid (PwC S (wr.alloc (.cells #[.int .u8 (a.c : Int), .string (str a.n), .string (str a.t)] 37)) g dv q ko kc (runP q (l.take (k + 1)) p)) := by rw [hPP.out]; exact H1.out
        have e0 : ((kk : Int) == 0) = false := by simp; omega
        have e1 : ((kk : Int) == 1) = false := by simp; omega
        have e2 : ((kk : Int) == 2) = false := by simp; omega
        have e3 : ((kk : Int) == 3) = false := by simp; omega
        have e4 : ((kk : Int) == 4) = false := by simp; omega
        clear hP hc hk8 hstep hPP h8
        go_wp2
        go_round
        case rel => exact ⟨k + 1, HLT.out, by go_num, H2.out, T1.out⟩
        case measure => have h9 := HLT.out; simp [intOf]; omega
    · have hx : k = l.length := by omega
      have i2 : ¬ (k : Int) < (l.length : Int) := by omega
      subst hx
      rw [List.take_length] at HW
      clear hlt hk
      go_wp2
      go_end0
      exact ⟨rfl, HW.out, HT.out⟩
end Go.Proofs.YthjhjbiihhpnfaaGreat
