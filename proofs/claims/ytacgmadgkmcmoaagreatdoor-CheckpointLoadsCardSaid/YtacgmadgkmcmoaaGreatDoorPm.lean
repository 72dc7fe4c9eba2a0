/- The document's power: a write. -/
import Derived.Test.YtacgmadgkmcmoaaGreatDoorPl
namespace Go.Proofs.YtacgmadgkmcmoaaGreatDoor
open Go.RowKit
set_option linter.unusedVariables false
set_option linter.unusedSimpArgs false
set_option maxRecDepth 100000

theorem rdo_off {S : Nat → Prop} {h gr q : Nat} {kc : Nat} {ko : Option Addr} {p : Pw} (kv : Int) (n t : List UInt8) (w : World) (k : QwC S w h gr q ko kc p) (hz : p.off = true) :
    Calls Tryz.prog 62 #[.pointer (some ⟨h, 0, none⟩), .int .i64 kv, .string (str n), .string (str t)] w fun R w' => R = .returned (.int .i64 8) ∧ w = w' := by
  have c4 := k.c4
  rw [hz] at c4
  clear k hz
  go_enter Tryz.func62, Tryz.ntmps62
  go_wp2
  go_ret
  exact ⟨rfl, rfl⟩
/-- Behind the count: one write more. -/
theorem QwC.count {S : Nat → Prop} {h gr q kc : Nat} {ko : Option Addr} {p : Pw} {w : World} (k : QwC S w h gr q ko kc p) : QwC S (w.setCell ⟨h, 3, none⟩ (.int .i64 ((p.n : Int) + 1))) h gr q ko kc { p with n := p.n + 1 } :=
  k.turn rfl (tu_set w h 3 _) (fun x _ e => .inl e) (k.blk.set 3 _) (k.rk.tu (tu_set w h 3 _) (fun x _ hS e => k.ng (e ▸ hS)))
/-- The first number to keep, even or odd, as the program and the document ask. -/
theorem first_odd {w : World} {ko : Option Addr} {k : Int} {r : List Int} (hi : Ints w ko (k :: r)) : ∃ b o, ko = some ⟨b, o, none⟩ ∧ w.cell? ⟨b, o, none⟩ = some (.int .i64 k) ∧ IntKind.i64.wrap (k.tmod 2) = k.tmod 2 := by
  obtain ⟨b, o, rfl, hc, h1, h2⟩ := hi 0 (by simp)
  rw [Nat.add_zero] at hc
  refine ⟨b, o, rfl, hc, ?_⟩
  have h3 := Int.natAbs_tmod k 2
  have h4 : k.natAbs % (2 : Int).natAbs < 2 := Nat.mod_lt _ (by decide)
  exact IntWalk.i64_in _ (by omega)
set_option maxHeartbeats 2000000 in
theorem rdo_even {S : Nat → Prop} {h gr q : Nat} {kc : Nat} {ko : Option Addr} {p : Pw} (kv : Int) (n t : List UInt8) (w : World) (k : QwC S w h gr q ko kc p) (hz : p.off = false) (hf : (p.n : Int) = p.fu) (ho : oddK p.ks = false) (hp : p.n < 1000000) :
    Calls Tryz.prog 62 #[.pointer (some ⟨h, 0, none⟩), .int .i64 kv, .string (str n), .string (str t)] w fun R w' => R = .returned (.int .i64 8) ∧ QwC S w' h gr q ko kc { p with n := p.n + 1, off := true, E := aCrash p.ks p.E } ∧ Tu (fun x => x = h ∨ S x) w w' := by
  have c1 := k.c1
  have c3 := k.c3
  have c4 := k.c4
  have K := Lib.hid k
  rw [hz] at c4
  have HZ := Lib.hid hz
  have hfb : ((p.n : Int) == p.fu) = true := by simp [hf]
  have HO := Lib.hid ho
  have HKS := Lib.hid k.ks
  have HKL := Lib.hid k.kl
  clear hf hz ho k
  go_enter Tryz.func62, Tryz.ntmps62
  go_upto_region 3 with fail
  go_quiet (fail)
  have K1 := Lib.hid (K.out.new (below_drewN (Below.refl w.heap.size w) nq))
  have T1 : Hid (Tu (fun x => x = h ∨ S x) w (w.drewN nq)) := Tu.new (below_drewN (Below.refl w.heap.size w) nq)
  clear c1 c3 c4
  generalize w.drewN nq = wd at *
  have c3 := K1.out.c3
  have z3 := K1.out.blk.frozen 3
  go_upto_region 5 with fail
  have K2 := Lib.hid K1.out.count
  have T2 : Hid (Tu (fun x => x = h ∨ S x) w (wd.setCell ⟨h, 3, none⟩ (.int .i64 ((p.n : Int) + 1)))) := T1.out.trans ((tu_set wd h 3 _).mono (fun x _ e => (.inl e : x = h ∨ S x))) (fun _ _ h => h)
  clear c3 z3 K1 T1
  generalize wd.setCell ⟨h, 3, none⟩ (.int .i64 ((p.n : Int) + 1)) = w1 at *
  have c0 := K2.out.c0
  have c2 : w1.cell? ⟨h, 2, none⟩ = some (.slice ko p.ks.length kc) := K2.out.c2
  clear c0
  have I2 := Lib.hid (show Ints w1 ko p.ks from K2.out.ks)
  have L2 := Lib.hid (show p.ks.length ≤ 20 from K2.out.kl)
  rcases hks : p.ks with _ | ⟨a, r⟩
  · rw [hks] at c2
    have HK' := Lib.hid hks
    clear hks
    rw [List.length_nil] at c2
    go_wp2_with fail
    refine (rblow_c w1 K2.out).mono ?_
    rintro R w2 ⟨rfl, hq2, ht2⟩
    rw [blow_on (p := { p with n := p.n + 1 }) HZ.out] at hq2
    have Q2 := Lib.hid hq2
    have T3 := Lib.hid ht2
    clear hq2 ht2
    go_wp2
    go_ret
    exact ⟨rfl, Q2.out, T2.out.trans T3.out (fun _ _ h => h)⟩
  · rw [hks] at c2
    have hI := I2.out
    have hO := HO.out
    have hL := L2.out
    rw [hks] at hI hO hL
    obtain ⟨b, o, rfl, ca, hm⟩ := first_odd hI
    have he : (a.tmod 2 == 0) = true := by
      have hO2 : (a.tmod 2 != 0) = false := hO
      simpa using hO2
    rw [List.length_cons] at c2 hL
    have hn0 : ¬ (((r.length : Int) + 1) == 0) = true := by simp; omega
    obtain ⟨m, hmm⟩ : ∃ m, r.length + 1 = m := ⟨_, rfl⟩
    rw [hmm] at c2 hL
    have hm0 : ((m : Int) == 0) = false := by simp; omega
    have hm1 : (0 : Int) < (m : Int) := by omega
    have HK' := Lib.hid hks
    clear hks hI hO hmm hn0
    go_wp2_with fail
    refine (rblow_c w1 K2.out).mono ?_
    rintro R w2 ⟨rfl, hq2, ht2⟩
    rw [blow_on (p := { p with n := p.n + 1 }) HZ.out] at hq2
    have Q2 := Lib.hid hq2
    have T3 := Lib.hid ht2
    clear hq2 ht2
    go_wp2
    go_ret
    exact ⟨rfl, Q2.out, T2.out.trans T3.out (fun _ _ h => h)⟩
set_option maxHeartbeats 2000000 in
theorem rdo0_on {S : Nat → Prop} {h gr q : Nat} {kc : Nat} {ko : Option Addr} {p : Pw} (n t : List UInt8) (w : World) (k : QwC S w h gr q ko kc p) (hS : ∀ x, w.heap.size ≤ x → S x) (hn : n.length ≤ maxLen) (hl : t.length ≤ maxLen) (hz : p.off = false) (hf : (p.n : Int) ≠ p.fu) (hp : p.n < 1000000) :
    Calls Tryz.prog 62 #[.pointer (some ⟨h, 0, none⟩), .int .i64 0, .string (str n), .string (str t)] w fun R w' => R = .returned (.int .i64 (wrR 0 q p.E n t : Nat)) ∧ QwC S w' h gr q ko kc { p with n := p.n + 1, E := wrE 0 q p.E n t } ∧ Tu (fun x => x = h ∨ S x) w w' := by
  have c1 := k.c1
  have c3 := k.c3
  have c4 := k.c4
  have K := Lib.hid k
  rw [hz] at c4
  have HZ := Lib.hid hz
  have hfb : ((p.n : Int) == p.fu) = false := by simp [hf]
  clear hf hz k
  go_enter Tryz.func62, Tryz.ntmps62
  go_upto_region 3 with fail
  go_quiet (fail)
  have K1 := Lib.hid (K.out.new (below_drewN (Below.refl w.heap.size w) nq))
  have T1 : Hid (Tu (fun x => x = h ∨ S x) w (w.drewN nq)) := Tu.new (below_drewN (Below.refl w.heap.size w) nq)
  clear c1 c3 c4
  generalize w.drewN nq = wd at *
  have c3 := K1.out.c3
  have z3 := K1.out.blk.frozen 3
  go_upto_region 5 with fail
  have K2 := Lib.hid K1.out.count
  have T2 : Hid (Tu (fun x => x = h ∨ S x) w (wd.setCell ⟨h, 3, none⟩ (.int .i64 ((p.n : Int) + 1)))) := T1.out.trans ((tu_set wd h 3 _).mono (fun x _ e => (.inl e : x = h ∨ S x))) (fun _ _ h => h)
  clear c3 z3 K1 T1
  generalize wd.setCell ⟨h, 3, none⟩ (.int .i64 ((p.n : Int) + 1)) = w1 at *
  have c0 := K2.out.c0
  have c2 : w1.cell? ⟨h, 2, none⟩ = some (.slice ko p.ks.length kc) := K2.out.c2
  obtain ⟨ro, rc, hrk⟩ := K2.out.rk.of
  have hrk : RkC S w1 gr q ro rc p.E := hrk
  have HC := Lib.hid (rcreate_c hrk (fun x hx => hS x (Nat.le_trans T2.out.size hx)) n hn)
  clear hrk hn hl hS
  clear c2
  go_wp2_with fail
  refine HC.out.mono ?_
  rintro R w2 ⟨rfl, hr2, ht2⟩
  have hq2 := K2.out.turn (p' := { p with n := p.n + 1, E := wrE 0 q p.E n t }) rfl ht2 (fun x _ e => .inr e) (K2.out.blk.tu ht2 K2.out.ng) hr2
  have Q2 := Lib.hid hq2
  have T3 := Lib.hid (T2.out.trans ht2 (fun x _ h => .inr h))
  clear hr2 ht2 hq2 c0
  go_wp2
  go_ret
  exact ⟨rfl, Q2.out, T3.out⟩
set_option maxHeartbeats 2000000 in
theorem rdo0_odd {S : Nat → Prop} {h gr q : Nat} {kc : Nat} {ko : Option Addr} {p : Pw} (n t : List UInt8) (w : World) (k : QwC S w h gr q ko kc p) (hS : ∀ x, w.heap.size ≤ x → S x) (hn : n.length ≤ maxLen) (hl : t.length ≤ maxLen) (hz : p.off = false) (hf : (p.n : Int) = p.fu) (ho : oddK p.ks = true) (hp : p.n < 1000000) :
    Calls Tryz.prog 62 #[.pointer (some ⟨h, 0, none⟩), .int .i64 0, .string (str n), .string (str t)] w fun R w' => R = .returned (.int .i64 8) ∧ QwC S w' h gr q ko kc { p with n := p.n + 1, off := true, E := aCrash p.ks (wrE 0 q p.E n t) } ∧ Tu (fun x => x = h ∨ S x) w w' := by
  have c1 := k.c1
  have c3 := k.c3
  have c4 := k.c4
  have K := Lib.hid k
  rw [hz] at c4
  have HZ := Lib.hid hz
  have hfb : ((p.n : Int) == p.fu) = true := by simp [hf]
  have HO := Lib.hid ho
  clear hf hz ho k
  go_enter Tryz.func62, Tryz.ntmps62
  go_upto_region 3 with fail
  go_quiet (fail)
  have K1 := Lib.hid (K.out.new (below_drewN (Below.refl w.heap.size w) nq))
  have T1 : Hid (Tu (fun x => x = h ∨ S x) w (w.drewN nq)) := Tu.new (below_drewN (Below.refl w.heap.size w) nq)
  clear c1 c3 c4
  generalize w.drewN nq = wd at *
  have c3 := K1.out.c3
  have z3 := K1.out.blk.frozen 3
  go_upto_region 5 with fail
  have K2 := Lib.hid K1.out.count
  have T2 : Hid (Tu (fun x => x = h ∨ S x) w (wd.setCell ⟨h, 3, none⟩ (.int .i64 ((p.n : Int) + 1)))) := T1.out.trans ((tu_set wd h 3 _).mono (fun x _ e => (.inl e : x = h ∨ S x))) (fun _ _ h => h)
  clear c3 z3 K1 T1
  generalize wd.setCell ⟨h, 3, none⟩ (.int .i64 ((p.n : Int) + 1)) = w1 at *
  have c0 := K2.out.c0
  have c2 : w1.cell? ⟨h, 2, none⟩ = some (.slice ko p.ks.length kc) := K2.out.c2
  obtain ⟨ro, rc, hrk⟩ := K2.out.rk.of
  have hrk : RkC S w1 gr q ro rc p.E := hrk
  have HC := Lib.hid (rcreate_c hrk (fun x hx => hS x (Nat.le_trans T2.out.size hx)) n hn)
  clear hrk hn hl hS
  have I2 := Lib.hid (show Ints w1 ko p.ks from K2.out.ks)
  have L2 := Lib.hid (show p.ks.length ≤ 20 from K2.out.kl)
  rcases hks : p.ks with _ | ⟨a, r⟩
  · have hO := HO.out
    rw [hks] at hO
    cases hO
  rw [hks] at c2
  have hI := I2.out
  have hO := HO.out
  have hL := L2.out
  rw [hks] at hI hO hL
  obtain ⟨b, o, rfl, ca, hm⟩ := first_odd hI
  have he : (a.tmod 2 == 0) = false := by
    have hO2 : (a.tmod 2 != 0) = true := hO
    simpa using hO2
  rw [List.length_cons] at c2 hL
  obtain ⟨m, hmm⟩ : ∃ m, r.length + 1 = m := ⟨_, rfl⟩
  rw [hmm] at c2 hL
  have hm0 : ((m : Int) == 0) = false := by simp; omega
  have hm1 : (0 : Int) < (m : Int) := by omega
  have HK' := Lib.hid hks
  clear hks hI hO hmm
  go_wp2_with fail
  refine HC.out.mono ?_
  rintro R w2 ⟨rfl, hr2, ht2⟩
  have hq2 := K2.out.turn (p' := { p with n := p.n + 1, E := wrE 0 q p.E n t }) rfl ht2 (fun x _ e => .inr e) (K2.out.blk.tu ht2 K2.out.ng) hr2
  have Q2 := Lib.hid hq2
  have T3 := Lib.hid (T2.out.trans ht2 (fun x _ h => .inr h))
  clear hr2 ht2 hq2 c0
  go_wp2_with fail
  refine (rblow_c w2 Q2.out).mono ?_
  rintro R w3 ⟨rfl, hq3, ht3⟩
  rw [blow_on (p := { p with n := p.n + 1, E := wrE 0 q p.E n t }) HZ.out] at hq3
  have Q3 := Lib.hid hq3
  have T4 := Lib.hid ht3
  clear hq3 ht3
  go_wp2
  go_ret
  exact ⟨rfl, Q3.out, T3.out.trans T4.out (fun _ _ h => h)⟩
/-- A write of kind 0, whatever the power is. -/
theorem rdo0_c {S : Nat → Prop} {h gr q : Nat} {kc : Nat} {ko : Option Addr} {p : Pw} (n t : List UInt8) (w : World) (k : QwC S w h gr q ko kc p) (hS : ∀ x, w.heap.size ≤ x → S x) (hn : n.length ≤ maxLen) (hl : t.length ≤ maxLen) (hp : p.n < 1000000) :
    Calls Tryz.prog 62 #[.pointer (some ⟨h, 0, none⟩), .int .i64 0, .string (str n), .string (str t)] w fun R w' => R = .returned (.int .i64 (p.code (wrR 0 q p.E n t) : Nat)) ∧ QwC S w' h gr q ko kc (p.after (wrE 0 q p.E n t)) ∧ Tu (fun x => x = h ∨ S x) w w' := by
  cases hz : p.off
  · by_cases hf : (p.n : Int) = p.fu
    · have hcode : p.code (wrR 0 q p.E n t) = 8 := by unfold Pw.code; rw [hz, if_pos hf]; rfl
      have haft : p.after (wrE 0 q p.E n t) = { p with n := p.n + 1, off := true, E := aCrash p.ks (if oddK p.ks then wrE 0 q p.E n t else p.E) } := by unfold Pw.after; rw [hz, if_pos hf]; rfl
      rw [hcode, haft]
      cases ho : oddK p.ks
      · exact rdo_even 0 n t w k hz hf ho hp
      · exact rdo0_odd n t w k hS hn hl hz hf ho hp
    · have hcode : p.code (wrR 0 q p.E n t) = wrR 0 q p.E n t := by unfold Pw.code; rw [hz, if_neg hf]; rfl
      have haft : p.after (wrE 0 q p.E n t) = { p with n := p.n + 1, E := wrE 0 q p.E n t } := by unfold Pw.after; rw [hz, if_neg hf]; rfl
      rw [hcode, haft]
      exact rdo0_on n t w k hS hn hl hz hf hp
  · have hcode : p.code (wrR 0 q p.E n t) = 8 := by unfold Pw.code; rw [hz]; rfl
    have haft : p.after (wrE 0 q p.E n t) = p := by unfold Pw.after; rw [hz]; rfl
    rw [hcode, haft]
    refine (rdo_off 0 n t w k hz).mono ?_
    rintro R w' ⟨rfl, rfl⟩
    exact ⟨rfl, k, Tu.refl _ w⟩
set_option maxHeartbeats 2000000 in
theorem rdo1_on {S : Nat → Prop} {h gr q : Nat} {kc : Nat} {ko : Option Addr} {p : Pw} (n t : List UInt8) (w : World) (k : QwC S w h gr q ko kc p) (hS : ∀ x, w.heap.size ≤ x → S x) (hn : n.length ≤ maxLen) (hl : t.length ≤ maxLen) (hz : p.off = false) (hf : (p.n : Int) ≠ p.fu) (hp : p.n < 1000000) :
    Calls Tryz.prog 62 #[.pointer (some ⟨h, 0, none⟩), .int .i64 1, .string (str n), .string (str t)] w fun R w' => R = .returned (.int .i64 (wrR 1 q p.E n t : Nat)) ∧ QwC S w' h gr q ko kc { p with n := p.n + 1, E := wrE 1 q p.E n t } ∧ Tu (fun x => x = h ∨ S x) w w' := by
  have c1 := k.c1
  have c3 := k.c3
  have c4 := k.c4
  have K := Lib.hid k
  rw [hz] at c4
  have HZ := Lib.hid hz
  have hfb : ((p.n : Int) == p.fu) = false := by simp [hf]
  clear hf hz k
  go_enter Tryz.func62, Tryz.ntmps62
  go_upto_region 3 with fail
  go_quiet (fail)
  have K1 := Lib.hid (K.out.new (below_drewN (Below.refl w.heap.size w) nq))
  have T1 : Hid (Tu (fun x => x = h ∨ S x) w (w.drewN nq)) := Tu.new (below_drewN (Below.refl w.heap.size w) nq)
  clear c1 c3 c4
  generalize w.drewN nq = wd at *
  have c3 := K1.out.c3
  have z3 := K1.out.blk.frozen 3
  go_upto_region 5 with fail
  have K2 := Lib.hid K1.out.count
  have T2 : Hid (Tu (fun x => x = h ∨ S x) w (wd.setCell ⟨h, 3, none⟩ (.int .i64 ((p.n : Int) + 1)))) := T1.out.trans ((tu_set wd h 3 _).mono (fun x _ e => (.inl e : x = h ∨ S x))) (fun _ _ h => h)
  clear c3 z3 K1 T1
  generalize wd.setCell ⟨h, 3, none⟩ (.int .i64 ((p.n : Int) + 1)) = w1 at *
  have c0 := K2.out.c0
  have c2 : w1.cell? ⟨h, 2, none⟩ = some (.slice ko p.ks.length kc) := K2.out.c2
  obtain ⟨ro, rc, hrk⟩ := K2.out.rk.of
  have hrk : RkC S w1 gr q ro rc p.E := hrk
  have HC := Lib.hid (rappend_c hrk n t hn hl)
  clear hrk hn hl hS
  clear c2
  go_wp2_with fail
  refine HC.out.mono ?_
  rintro R w2 ⟨rfl, hr2, ht2⟩
  have hq2 := K2.out.turn (p' := { p with n := p.n + 1, E := wrE 1 q p.E n t }) rfl ht2 (fun x _ e => .inr e) (K2.out.blk.tu ht2 K2.out.ng) hr2
  have Q2 := Lib.hid hq2
  have T3 := Lib.hid (T2.out.trans ht2 (fun x _ h => .inr h))
  clear hr2 ht2 hq2 c0
  go_wp2
  go_ret
  exact ⟨rfl, Q2.out, T3.out⟩
set_option maxHeartbeats 2000000 in
theorem rdo1_odd {S : Nat → Prop} {h gr q : Nat} {kc : Nat} {ko : Option Addr} {p : Pw} (n t : List UInt8) (w : World) (k : QwC S w h gr q ko kc p) (hS : ∀ x, w.heap.size ≤ x → S x) (hn : n.length ≤ maxLen) (hl : t.length ≤ maxLen) (hz : p.off = false) (hf : (p.n : Int) = p.fu) (ho : oddK p.ks = true) (hp : p.n < 1000000) :
    Calls Tryz.prog 62 #[.pointer (some ⟨h, 0, none⟩), .int .i64 1, .string (str n), .string (str t)] w fun R w' => R = .returned (.int .i64 8) ∧ QwC S w' h gr q ko kc { p with n := p.n + 1, off := true, E := aCrash p.ks (wrE 1 q p.E n t) } ∧ Tu (fun x => x = h ∨ S x) w w' := by
  have c1 := k.c1
  have c3 := k.c3
  have c4 := k.c4
  have K := Lib.hid k
  rw [hz] at c4
  have HZ := Lib.hid hz
  have hfb : ((p.n : Int) == p.fu) = true := by simp [hf]
  have HO := Lib.hid ho
  clear hf hz ho k
  go_enter Tryz.func62, Tryz.ntmps62
  go_upto_region 3 with fail
  go_quiet (fail)
  have K1 := Lib.hid (K.out.new (below_drewN (Below.refl w.heap.size w) nq))
  have T1 : Hid (Tu (fun x => x = h ∨ S x) w (w.drewN nq)) := Tu.new (below_drewN (Below.refl w.heap.size w) nq)
  clear c1 c3 c4
  generalize w.drewN nq = wd at *
  have c3 := K1.out.c3
  have z3 := K1.out.blk.frozen 3
  go_upto_region 5 with fail
  have K2 := Lib.hid K1.out.count
  have T2 : Hid (Tu (fun x => x = h ∨ S x) w (wd.setCell ⟨h, 3, none⟩ (.int .i64 ((p.n : Int) + 1)))) := T1.out.trans ((tu_set wd h 3 _).mono (fun x _ e => (.inl e : x = h ∨ S x))) (fun _ _ h => h)
  clear c3 z3 K1 T1
  generalize wd.setCell ⟨h, 3, none⟩ (.int .i64 ((p.n : Int) + 1)) = w1 at *
  have c0 := K2.out.c0
  have c2 : w1.cell? ⟨h, 2, none⟩ = some (.slice ko p.ks.length kc) := K2.out.c2
  obtain ⟨ro, rc, hrk⟩ := K2.out.rk.of
  have hrk : RkC S w1 gr q ro rc p.E := hrk
  have HC := Lib.hid (rappend_c hrk n t hn hl)
  clear hrk hn hl hS
  have I2 := Lib.hid (show Ints w1 ko p.ks from K2.out.ks)
  have L2 := Lib.hid (show p.ks.length ≤ 20 from K2.out.kl)
  rcases hks : p.ks with _ | ⟨a, r⟩
  · have hO := HO.out
    rw [hks] at hO
    cases hO
  rw [hks] at c2
  have hI := I2.out
  have hO := HO.out
  have hL := L2.out
  rw [hks] at hI hO hL
  obtain ⟨b, o, rfl, ca, hm⟩ := first_odd hI
  have he : (a.tmod 2 == 0) = false := by
    have hO2 : (a.tmod 2 != 0) = true := hO
    simpa using hO2
  rw [List.length_cons] at c2 hL
  obtain ⟨m, hmm⟩ : ∃ m, r.length + 1 = m := ⟨_, rfl⟩
  rw [hmm] at c2 hL
  have hm0 : ((m : Int) == 0) = false := by simp; omega
  have hm1 : (0 : Int) < (m : Int) := by omega
  have HK' := Lib.hid hks
  clear hks hI hO hmm
  go_wp2_with fail
  refine HC.out.mono ?_
  rintro R w2 ⟨rfl, hr2, ht2⟩
  have hq2 := K2.out.turn (p' := { p with n := p.n + 1, E := wrE 1 q p.E n t }) rfl ht2 (fun x _ e => .inr e) (K2.out.blk.tu ht2 K2.out.ng) hr2
  have Q2 := Lib.hid hq2
  have T3 := Lib.hid (T2.out.trans ht2 (fun x _ h => .inr h))
  clear hr2 ht2 hq2 c0
  go_wp2_with fail
  refine (rblow_c w2 Q2.out).mono ?_
  rintro R w3 ⟨rfl, hq3, ht3⟩
  rw [blow_on (p := { p with n := p.n + 1, E := wrE 1 q p.E n t }) HZ.out] at hq3
  have Q3 := Lib.hid hq3
  have T4 := Lib.hid ht3
  clear hq3 ht3
  go_wp2
  go_ret
  exact ⟨rfl, Q3.out, T3.out.trans T4.out (fun _ _ h => h)⟩
/-- A write of kind 1, whatever the power is. -/
theorem rdo1_c {S : Nat → Prop} {h gr q : Nat} {kc : Nat} {ko : Option Addr} {p : Pw} (n t : List UInt8) (w : World) (k : QwC S w h gr q ko kc p) (hS : ∀ x, w.heap.size ≤ x → S x) (hn : n.length ≤ maxLen) (hl : t.length ≤ maxLen) (hp : p.n < 1000000) :
    Calls Tryz.prog 62 #[.pointer (some ⟨h, 0, none⟩), .int .i64 1, .string (str n), .string (str t)] w fun R w' => R = .returned (.int .i64 (p.code (wrR 1 q p.E n t) : Nat)) ∧ QwC S w' h gr q ko kc (p.after (wrE 1 q p.E n t)) ∧ Tu (fun x => x = h ∨ S x) w w' := by
  cases hz : p.off
  · by_cases hf : (p.n : Int) = p.fu
    · have hcode : p.code (wrR 1 q p.E n t) = 8 := by unfold Pw.code; rw [hz, if_pos hf]; rfl
      have haft : p.after (wrE 1 q p.E n t) = { p with n := p.n + 1, off := true, E := aCrash p.ks (if oddK p.ks then wrE 1 q p.E n t else p.E) } := by unfold Pw.after; rw [hz, if_pos hf]; rfl
      rw [hcode, haft]
      cases ho : oddK p.ks
      · exact rdo_even 1 n t w k hz hf ho hp
      · exact rdo1_odd n t w k hS hn hl hz hf ho hp
    · have hcode : p.code (wrR 1 q p.E n t) = wrR 1 q p.E n t := by unfold Pw.code; rw [hz, if_neg hf]; rfl
      have haft : p.after (wrE 1 q p.E n t) = { p with n := p.n + 1, E := wrE 1 q p.E n t } := by unfold Pw.after; rw [hz, if_neg hf]; rfl
      rw [hcode, haft]
      exact rdo1_on n t w k hS hn hl hz hf hp
  · have hcode : p.code (wrR 1 q p.E n t) = 8 := by unfold Pw.code; rw [hz]; rfl
    have haft : p.after (wrE 1 q p.E n t) = p := by unfold Pw.after; rw [hz]; rfl
    rw [hcode, haft]
    refine (rdo_off 1 n t w k hz).mono ?_
    rintro R w' ⟨rfl, rfl⟩
    exact ⟨rfl, k, Tu.refl _ w⟩
set_option maxHeartbeats 2000000 in
theorem rdo2_on {S : Nat → Prop} {h gr q : Nat} {kc : Nat} {ko : Option Addr} {p : Pw} (n t : List UInt8) (w : World) (k : QwC S w h gr q ko kc p) (hS : ∀ x, w.heap.size ≤ x → S x) (hn : n.length ≤ maxLen) (hl : t.length ≤ maxLen) (hz : p.off = false) (hf : (p.n : Int) ≠ p.fu) (hp : p.n < 1000000) :
    Calls Tryz.prog 62 #[.pointer (some ⟨h, 0, none⟩), .int .i64 2, .string (str n), .string (str t)] w fun R w' => R = .returned (.int .i64 (wrR 2 q p.E n t : Nat)) ∧ QwC S w' h gr q ko kc { p with n := p.n + 1, E := wrE 2 q p.E n t } ∧ Tu (fun x => x = h ∨ S x) w w' := by
  have c1 := k.c1
  have c3 := k.c3
  have c4 := k.c4
  have K := Lib.hid k
  rw [hz] at c4
  have HZ := Lib.hid hz
  have hfb : ((p.n : Int) == p.fu) = false := by simp [hf]
  clear hf hz k
  go_enter Tryz.func62, Tryz.ntmps62
  go_upto_region 3 with fail
  go_quiet (fail)
  have K1 := Lib.hid (K.out.new (below_drewN (Below.refl w.heap.size w) nq))
  have T1 : Hid (Tu (fun x => x = h ∨ S x) w (w.drewN nq)) := Tu.new (below_drewN (Below.refl w.heap.size w) nq)
  clear c1 c3 c4
  generalize w.drewN nq = wd at *
  have c3 := K1.out.c3
  have z3 := K1.out.blk.frozen 3
  go_upto_region 5 with fail
  have K2 := Lib.hid K1.out.count
  have T2 : Hid (Tu (fun x => x = h ∨ S x) w (wd.setCell ⟨h, 3, none⟩ (.int .i64 ((p.n : Int) + 1)))) := T1.out.trans ((tu_set wd h 3 _).mono (fun x _ e => (.inl e : x = h ∨ S x))) (fun _ _ h => h)
  clear c3 z3 K1 T1
  generalize wd.setCell ⟨h, 3, none⟩ (.int .i64 ((p.n : Int) + 1)) = w1 at *
  have c0 := K2.out.c0
  have c2 : w1.cell? ⟨h, 2, none⟩ = some (.slice ko p.ks.length kc) := K2.out.c2
  obtain ⟨ro, rc, hrk⟩ := K2.out.rk.of
  have hrk : RkC S w1 gr q ro rc p.E := hrk
  have HC := Lib.hid (rsync_c hrk n hn)
  clear hrk hn hl hS
  clear c2
  go_wp2_with fail
  refine HC.out.mono ?_
  rintro R w2 ⟨rfl, hr2, ht2⟩
  have hq2 := K2.out.turn (p' := { p with n := p.n + 1, E := wrE 2 q p.E n t }) rfl ht2 (fun x _ e => .inr e) (K2.out.blk.tu ht2 K2.out.ng) hr2
  have Q2 := Lib.hid hq2
  have T3 := Lib.hid (T2.out.trans ht2 (fun x _ h => .inr h))
  clear hr2 ht2 hq2 c0
  go_wp2
  go_ret
  exact ⟨rfl, Q2.out, T3.out⟩
set_option maxHeartbeats 2000000 in
theorem rdo2_odd {S : Nat → Prop} {h gr q : Nat} {kc : Nat} {ko : Option Addr} {p : Pw} (n t : List UInt8) (w : World) (k : QwC S w h gr q ko kc p) (hS : ∀ x, w.heap.size ≤ x → S x) (hn : n.length ≤ maxLen) (hl : t.length ≤ maxLen) (hz : p.off = false) (hf : (p.n : Int) = p.fu) (ho : oddK p.ks = true) (hp : p.n < 1000000) :
    Calls Tryz.prog 62 #[.pointer (some ⟨h, 0, none⟩), .int .i64 2, .string (str n), .string (str t)] w fun R w' => R = .returned (.int .i64 8) ∧ QwC S w' h gr q ko kc { p with n := p.n + 1, off := true, E := aCrash p.ks (wrE 2 q p.E n t) } ∧ Tu (fun x => x = h ∨ S x) w w' := by
  have c1 := k.c1
  have c3 := k.c3
  have c4 := k.c4
  have K := Lib.hid k
  rw [hz] at c4
  have HZ := Lib.hid hz
  have hfb : ((p.n : Int) == p.fu) = true := by simp [hf]
  have HO := Lib.hid ho
  clear hf hz ho k
  go_enter Tryz.func62, Tryz.ntmps62
  go_upto_region 3 with fail
  go_quiet (fail)
  have K1 := Lib.hid (K.out.new (below_drewN (Below.refl w.heap.size w) nq))
  have T1 : Hid (Tu (fun x => x = h ∨ S x) w (w.drewN nq)) := Tu.new (below_drewN (Below.refl w.heap.size w) nq)
  clear c1 c3 c4
  generalize w.drewN nq = wd at *
  have c3 := K1.out.c3
  have z3 := K1.out.blk.frozen 3
  go_upto_region 5 with fail
  have K2 := Lib.hid K1.out.count
  have T2 : Hid (Tu (fun x => x = h ∨ S x) w (wd.setCell ⟨h, 3, none⟩ (.int .i64 ((p.n : Int) + 1)))) := T1.out.trans ((tu_set wd h 3 _).mono (fun x _ e => (.inl e : x = h ∨ S x))) (fun _ _ h => h)
  clear c3 z3 K1 T1
  generalize wd.setCell ⟨h, 3, none⟩ (.int .i64 ((p.n : Int) + 1)) = w1 at *
  have c0 := K2.out.c0
  have c2 : w1.cell? ⟨h, 2, none⟩ = some (.slice ko p.ks.length kc) := K2.out.c2
  obtain ⟨ro, rc, hrk⟩ := K2.out.rk.of
  have hrk : RkC S w1 gr q ro rc p.E := hrk
  have HC := Lib.hid (rsync_c hrk n hn)
  clear hrk hn hl hS
  have I2 := Lib.hid (show Ints w1 ko p.ks from K2.out.ks)
  have L2 := Lib.hid (show p.ks.length ≤ 20 from K2.out.kl)
  rcases hks : p.ks with _ | ⟨a, r⟩
  · have hO := HO.out
    rw [hks] at hO
    cases hO
  rw [hks] at c2
  have hI := I2.out
  have hO := HO.out
  have hL := L2.out
  rw [hks] at hI hO hL
  obtain ⟨b, o, rfl, ca, hm⟩ := first_odd hI
  have he : (a.tmod 2 == 0) = false := by
    have hO2 : (a.tmod 2 != 0) = true := hO
    simpa using hO2
  rw [List.length_cons] at c2 hL
  obtain ⟨m, hmm⟩ : ∃ m, r.length + 1 = m := ⟨_, rfl⟩
  rw [hmm] at c2 hL
  have hm0 : ((m : Int) == 0) = false := by simp; omega
  have hm1 : (0 : Int) < (m : Int) := by omega
  have HK' := Lib.hid hks
  clear hks hI hO hmm
  go_wp2_with fail
  refine HC.out.mono ?_
  rintro R w2 ⟨rfl, hr2, ht2⟩
  have hq2 := K2.out.turn (p' := { p with n := p.n + 1, E := wrE 2 q p.E n t }) rfl ht2 (fun x _ e => .inr e) (K2.out.blk.tu ht2 K2.out.ng) hr2
  have Q2 := Lib.hid hq2
  have T3 := Lib.hid (T2.out.trans ht2 (fun x _ h => .inr h))
  clear hr2 ht2 hq2 c0
  go_wp2_with fail
  refine (rblow_c w2 Q2.out).mono ?_
  rintro R w3 ⟨rfl, hq3, ht3⟩
  rw [blow_on (p := { p with n := p.n + 1, E := wrE 2 q p.E n t }) HZ.out] at hq3
  have Q3 := Lib.hid hq3
  have T4 := Lib.hid ht3
  clear hq3 ht3
  go_wp2
  go_ret
  exact ⟨rfl, Q3.out, T3.out.trans T4.out (fun _ _ h => h)⟩
/-- A write of kind 2, whatever the power is. -/
theorem rdo2_c {S : Nat → Prop} {h gr q : Nat} {kc : Nat} {ko : Option Addr} {p : Pw} (n t : List UInt8) (w : World) (k : QwC S w h gr q ko kc p) (hS : ∀ x, w.heap.size ≤ x → S x) (hn : n.length ≤ maxLen) (hl : t.length ≤ maxLen) (hp : p.n < 1000000) :
    Calls Tryz.prog 62 #[.pointer (some ⟨h, 0, none⟩), .int .i64 2, .string (str n), .string (str t)] w fun R w' => R = .returned (.int .i64 (p.code (wrR 2 q p.E n t) : Nat)) ∧ QwC S w' h gr q ko kc (p.after (wrE 2 q p.E n t)) ∧ Tu (fun x => x = h ∨ S x) w w' := by
  cases hz : p.off
  · by_cases hf : (p.n : Int) = p.fu
    · have hcode : p.code (wrR 2 q p.E n t) = 8 := by unfold Pw.code; rw [hz, if_pos hf]; rfl
      have haft : p.after (wrE 2 q p.E n t) = { p with n := p.n + 1, off := true, E := aCrash p.ks (if oddK p.ks then wrE 2 q p.E n t else p.E) } := by unfold Pw.after; rw [hz, if_pos hf]; rfl
      rw [hcode, haft]
      cases ho : oddK p.ks
      · exact rdo_even 2 n t w k hz hf ho hp
      · exact rdo2_odd n t w k hS hn hl hz hf ho hp
    · have hcode : p.code (wrR 2 q p.E n t) = wrR 2 q p.E n t := by unfold Pw.code; rw [hz, if_neg hf]; rfl
      have haft : p.after (wrE 2 q p.E n t) = { p with n := p.n + 1, E := wrE 2 q p.E n t } := by unfold Pw.after; rw [hz, if_neg hf]; rfl
      rw [hcode, haft]
      exact rdo2_on n t w k hS hn hl hz hf hp
  · have hcode : p.code (wrR 2 q p.E n t) = 8 := by unfold Pw.code; rw [hz]; rfl
    have haft : p.after (wrE 2 q p.E n t) = p := by unfold Pw.after; rw [hz]; rfl
    rw [hcode, haft]
    refine (rdo_off 2 n t w k hz).mono ?_
    rintro R w' ⟨rfl, rfl⟩
    exact ⟨rfl, k, Tu.refl _ w⟩
set_option maxHeartbeats 2000000 in
theorem rdo3_on {S : Nat → Prop} {h gr q : Nat} {kc : Nat} {ko : Option Addr} {p : Pw} (n t : List UInt8) (w : World) (k : QwC S w h gr q ko kc p) (hS : ∀ x, w.heap.size ≤ x → S x) (hn : n.length ≤ maxLen) (hl : t.length ≤ maxLen) (hz : p.off = false) (hf : (p.n : Int) ≠ p.fu) (hp : p.n < 1000000) :
    Calls Tryz.prog 62 #[.pointer (some ⟨h, 0, none⟩), .int .i64 3, .string (str n), .string (str t)] w fun R w' => R = .returned (.int .i64 (wrR 3 q p.E n t : Nat)) ∧ QwC S w' h gr q ko kc { p with n := p.n + 1, E := wrE 3 q p.E n t } ∧ Tu (fun x => x = h ∨ S x) w w' := by
  have c1 := k.c1
  have c3 := k.c3
  have c4 := k.c4
  have K := Lib.hid k
  rw [hz] at c4
  have HZ := Lib.hid hz
  have hfb : ((p.n : Int) == p.fu) = false := by simp [hf]
  clear hf hz k
  go_enter Tryz.func62, Tryz.ntmps62
  go_upto_region 3 with fail
  go_quiet (fail)
  have K1 := Lib.hid (K.out.new (below_drewN (Below.refl w.heap.size w) nq))
  have T1 : Hid (Tu (fun x => x = h ∨ S x) w (w.drewN nq)) := Tu.new (below_drewN (Below.refl w.heap.size w) nq)
  clear c1 c3 c4
  generalize w.drewN nq = wd at *
  have c3 := K1.out.c3
  have z3 := K1.out.blk.frozen 3
  go_upto_region 5 with fail
  have K2 := Lib.hid K1.out.count
  have T2 : Hid (Tu (fun x => x = h ∨ S x) w (wd.setCell ⟨h, 3, none⟩ (.int .i64 ((p.n : Int) + 1)))) := T1.out.trans ((tu_set wd h 3 _).mono (fun x _ e => (.inl e : x = h ∨ S x))) (fun _ _ h => h)
  clear c3 z3 K1 T1
  generalize wd.setCell ⟨h, 3, none⟩ (.int .i64 ((p.n : Int) + 1)) = w1 at *
  have c0 := K2.out.c0
  have c2 : w1.cell? ⟨h, 2, none⟩ = some (.slice ko p.ks.length kc) := K2.out.c2
  obtain ⟨ro, rc, hrk⟩ := K2.out.rk.of
  have hrk : RkC S w1 gr q ro rc p.E := hrk
  have HC := Lib.hid (rrename_c hrk (fun x hx => hS x (Nat.le_trans T2.out.size hx)) n t hn hl)
  clear hrk hn hl hS
  clear c2
  go_wp2_with fail
  refine HC.out.mono ?_
  rintro R w2 ⟨rfl, hr2, ht2⟩
  have hq2 := K2.out.turn (p' := { p with n := p.n + 1, E := wrE 3 q p.E n t }) rfl ht2 (fun x _ e => .inr e) (K2.out.blk.tu ht2 K2.out.ng) hr2
  have Q2 := Lib.hid hq2
  have T3 := Lib.hid (T2.out.trans ht2 (fun x _ h => .inr h))
  clear hr2 ht2 hq2 c0
  go_wp2
  go_ret
  exact ⟨rfl, Q2.out, T3.out⟩
set_option maxHeartbeats 2000000 in
theorem rdo3_odd {S : Nat → Prop} {h gr q : Nat} {kc : Nat} {ko : Option Addr} {p : Pw} (n t : List UInt8) (w : World) (k : QwC S w h gr q ko kc p) (hS : ∀ x, w.heap.size ≤ x → S x) (hn : n.length ≤ maxLen) (hl : t.length ≤ maxLen) (hz : p.off = false) (hf : (p.n : Int) = p.fu) (ho : oddK p.ks = true) (hp : p.n < 1000000) :
    Calls Tryz.prog 62 #[.pointer (some ⟨h, 0, none⟩), .int .i64 3, .string (str n), .string (str t)] w fun R w' => R = .returned (.int .i64 8) ∧ QwC S w' h gr q ko kc { p with n := p.n + 1, off := true, E := aCrash p.ks (wrE 3 q p.E n t) } ∧ Tu (fun x => x = h ∨ S x) w w' := by
  have c1 := k.c1
  have c3 := k.c3
  have c4 := k.c4
  have K := Lib.hid k
  rw [hz] at c4
  have HZ := Lib.hid hz
  have hfb : ((p.n : Int) == p.fu) = true := by simp [hf]
  have HO := Lib.hid ho
  clear hf hz ho k
  go_enter Tryz.func62, Tryz.ntmps62
  go_upto_region 3 with fail
  go_quiet (fail)
  have K1 := Lib.hid (K.out.new (below_drewN (Below.refl w.heap.size w) nq))
  have T1 : Hid (Tu (fun x => x = h ∨ S x) w (w.drewN nq)) := Tu.new (below_drewN (Below.refl w.heap.size w) nq)
  clear c1 c3 c4
  generalize w.drewN nq = wd at *
  have c3 := K1.out.c3
  have z3 := K1.out.blk.frozen 3
  go_upto_region 5 with fail
  have K2 := Lib.hid K1.out.count
  have T2 : Hid (Tu (fun x => x = h ∨ S x) w (wd.setCell ⟨h, 3, none⟩ (.int .i64 ((p.n : Int) + 1)))) := T1.out.trans ((tu_set wd h 3 _).mono (fun x _ e => (.inl e : x = h ∨ S x))) (fun _ _ h => h)
  clear c3 z3 K1 T1
  generalize wd.setCell ⟨h, 3, none⟩ (.int .i64 ((p.n : Int) + 1)) = w1 at *
  have c0 := K2.out.c0
  have c2 : w1.cell? ⟨h, 2, none⟩ = some (.slice ko p.ks.length kc) := K2.out.c2
  obtain ⟨ro, rc, hrk⟩ := K2.out.rk.of
  have hrk : RkC S w1 gr q ro rc p.E := hrk
  have HC := Lib.hid (rrename_c hrk (fun x hx => hS x (Nat.le_trans T2.out.size hx)) n t hn hl)
  clear hrk hn hl hS
  have I2 := Lib.hid (show Ints w1 ko p.ks from K2.out.ks)
  have L2 := Lib.hid (show p.ks.length ≤ 20 from K2.out.kl)
  rcases hks : p.ks with _ | ⟨a, r⟩
  · have hO := HO.out
    rw [hks] at hO
    cases hO
  rw [hks] at c2
  have hI := I2.out
  have hO := HO.out
  have hL := L2.out
  rw [hks] at hI hO hL
  obtain ⟨b, o, rfl, ca, hm⟩ := first_odd hI
  have he : (a.tmod 2 == 0) = false := by
    have hO2 : (a.tmod 2 != 0) = true := hO
    simpa using hO2
  rw [List.length_cons] at c2 hL
  obtain ⟨m, hmm⟩ : ∃ m, r.length + 1 = m := ⟨_, rfl⟩
  rw [hmm] at c2 hL
  have hm0 : ((m : Int) == 0) = false := by simp; omega
  have hm1 : (0 : Int) < (m : Int) := by omega
  have HK' := Lib.hid hks
  clear hks hI hO hmm
  go_wp2_with fail
  refine HC.out.mono ?_
  rintro R w2 ⟨rfl, hr2, ht2⟩
  have hq2 := K2.out.turn (p' := { p with n := p.n + 1, E := wrE 3 q p.E n t }) rfl ht2 (fun x _ e => .inr e) (K2.out.blk.tu ht2 K2.out.ng) hr2
  have Q2 := Lib.hid hq2
  have T3 := Lib.hid (T2.out.trans ht2 (fun x _ h => .inr h))
  clear hr2 ht2 hq2 c0
  go_wp2_with fail
  refine (rblow_c w2 Q2.out).mono ?_
  rintro R w3 ⟨rfl, hq3, ht3⟩
  rw [blow_on (p := { p with n := p.n + 1, E := wrE 3 q p.E n t }) HZ.out] at hq3
  have Q3 := Lib.hid hq3
  have T4 := Lib.hid ht3
  clear hq3 ht3
  go_wp2
  go_ret
  exact ⟨rfl, Q3.out, T3.out.trans T4.out (fun _ _ h => h)⟩
/-- A write of kind 3, whatever the power is. -/
theorem rdo3_c {S : Nat → Prop} {h gr q : Nat} {kc : Nat} {ko : Option Addr} {p : Pw} (n t : List UInt8) (w : World) (k : QwC S w h gr q ko kc p) (hS : ∀ x, w.heap.size ≤ x → S x) (hn : n.length ≤ maxLen) (hl : t.length ≤ maxLen) (hp : p.n < 1000000) :
    Calls Tryz.prog 62 #[.pointer (some ⟨h, 0, none⟩), .int .i64 3, .string (str n), .string (str t)] w fun R w' => R = .returned (.int .i64 (p.code (wrR 3 q p.E n t) : Nat)) ∧ QwC S w' h gr q ko kc (p.after (wrE 3 q p.E n t)) ∧ Tu (fun x => x = h ∨ S x) w w' := by
  cases hz : p.off
  · by_cases hf : (p.n : Int) = p.fu
    · have hcode : p.code (wrR 3 q p.E n t) = 8 := by unfold Pw.code; rw [hz, if_pos hf]; rfl
      have haft : p.after (wrE 3 q p.E n t) = { p with n := p.n + 1, off := true, E := aCrash p.ks (if oddK p.ks then wrE 3 q p.E n t else p.E) } := by unfold Pw.after; rw [hz, if_pos hf]; rfl
      rw [hcode, haft]
      cases ho : oddK p.ks
      · exact rdo_even 3 n t w k hz hf ho hp
      · exact rdo3_odd n t w k hS hn hl hz hf ho hp
    · have hcode : p.code (wrR 3 q p.E n t) = wrR 3 q p.E n t := by unfold Pw.code; rw [hz, if_neg hf]; rfl
      have haft : p.after (wrE 3 q p.E n t) = { p with n := p.n + 1, E := wrE 3 q p.E n t } := by unfold Pw.after; rw [hz, if_neg hf]; rfl
      rw [hcode, haft]
      exact rdo3_on n t w k hS hn hl hz hf hp
  · have hcode : p.code (wrR 3 q p.E n t) = 8 := by unfold Pw.code; rw [hz]; rfl
    have haft : p.after (wrE 3 q p.E n t) = p := by unfold Pw.after; rw [hz]; rfl
    rw [hcode, haft]
    refine (rdo_off 3 n t w k hz).mono ?_
    rintro R w' ⟨rfl, rfl⟩
    exact ⟨rfl, k, Tu.refl _ w⟩
set_option maxHeartbeats 2000000 in
theorem rdo4_on {S : Nat → Prop} {h gr q : Nat} {kc : Nat} {ko : Option Addr} {p : Pw} (n t : List UInt8) (w : World) (k : QwC S w h gr q ko kc p) (hS : ∀ x, w.heap.size ≤ x → S x) (hn : n.length ≤ maxLen) (hl : t.length ≤ maxLen) (hz : p.off = false) (hf : (p.n : Int) ≠ p.fu) (hp : p.n < 1000000) :
    Calls Tryz.prog 62 #[.pointer (some ⟨h, 0, none⟩), .int .i64 4, .string (str n), .string (str t)] w fun R w' => R = .returned (.int .i64 (wrR 4 q p.E n t : Nat)) ∧ QwC S w' h gr q ko kc { p with n := p.n + 1, E := wrE 4 q p.E n t } ∧ Tu (fun x => x = h ∨ S x) w w' := by
  have c1 := k.c1
  have c3 := k.c3
  have c4 := k.c4
  have K := Lib.hid k
  rw [hz] at c4
  have HZ := Lib.hid hz
  have hfb : ((p.n : Int) == p.fu) = false := by simp [hf]
  clear hf hz k
  go_enter Tryz.func62, Tryz.ntmps62
  go_upto_region 3 with fail
  go_quiet (fail)
  have K1 := Lib.hid (K.out.new (below_drewN (Below.refl w.heap.size w) nq))
  have T1 : Hid (Tu (fun x => x = h ∨ S x) w (w.drewN nq)) := Tu.new (below_drewN (Below.refl w.heap.size w) nq)
  clear c1 c3 c4
  generalize w.drewN nq = wd at *
  have c3 := K1.out.c3
  have z3 := K1.out.blk.frozen 3
  go_upto_region 5 with fail
  have K2 := Lib.hid K1.out.count
  have T2 : Hid (Tu (fun x => x = h ∨ S x) w (wd.setCell ⟨h, 3, none⟩ (.int .i64 ((p.n : Int) + 1)))) := T1.out.trans ((tu_set wd h 3 _).mono (fun x _ e => (.inl e : x = h ∨ S x))) (fun _ _ h => h)
  clear c3 z3 K1 T1
  generalize wd.setCell ⟨h, 3, none⟩ (.int .i64 ((p.n : Int) + 1)) = w1 at *
  have c0 := K2.out.c0
  have c2 : w1.cell? ⟨h, 2, none⟩ = some (.slice ko p.ks.length kc) := K2.out.c2
  obtain ⟨ro, rc, hrk⟩ := K2.out.rk.of
  have hrk : RkC S w1 gr q ro rc p.E := hrk
  have HC := Lib.hid (rremove_c hrk (fun x hx => hS x (Nat.le_trans T2.out.size hx)) n hn)
  clear hrk hn hl hS
  clear c2
  go_wp2_with fail
  refine HC.out.mono ?_
  rintro R w2 ⟨rfl, hr2, ht2⟩
  have hq2 := K2.out.turn (p' := { p with n := p.n + 1, E := wrE 4 q p.E n t }) rfl ht2 (fun x _ e => .inr e) (K2.out.blk.tu ht2 K2.out.ng) hr2
  have Q2 := Lib.hid hq2
  have T3 := Lib.hid (T2.out.trans ht2 (fun x _ h => .inr h))
  clear hr2 ht2 hq2 c0
  go_wp2
  go_ret
  exact ⟨rfl, Q2.out, T3.out⟩
set_option maxHeartbeats 2000000 in
theorem rdo4_odd {S : Nat → Prop} {h gr q : Nat} {kc : Nat} {ko : Option Addr} {p : Pw} (n t : List UInt8) (w : World) (k : QwC S w h gr q ko kc p) (hS : ∀ x, w.heap.size ≤ x → S x) (hn : n.length ≤ maxLen) (hl : t.length ≤ maxLen) (hz : p.off = false) (hf : (p.n : Int) = p.fu) (ho : oddK p.ks = true) (hp : p.n < 1000000) :
    Calls Tryz.prog 62 #[.pointer (some ⟨h, 0, none⟩), .int .i64 4, .string (str n), .string (str t)] w fun R w' => R = .returned (.int .i64 8) ∧ QwC S w' h gr q ko kc { p with n := p.n + 1, off := true, E := aCrash p.ks (wrE 4 q p.E n t) } ∧ Tu (fun x => x = h ∨ S x) w w' := by
  have c1 := k.c1
  have c3 := k.c3
  have c4 := k.c4
  have K := Lib.hid k
  rw [hz] at c4
  have HZ := Lib.hid hz
  have hfb : ((p.n : Int) == p.fu) = true := by simp [hf]
  have HO := Lib.hid ho
  clear hf hz ho k
  go_enter Tryz.func62, Tryz.ntmps62
  go_upto_region 3 with fail
  go_quiet (fail)
  have K1 := Lib.hid (K.out.new (below_drewN (Below.refl w.heap.size w) nq))
  have T1 : Hid (Tu (fun x => x = h ∨ S x) w (w.drewN nq)) := Tu.new (below_drewN (Below.refl w.heap.size w) nq)
  clear c1 c3 c4
  generalize w.drewN nq = wd at *
  have c3 := K1.out.c3
  have z3 := K1.out.blk.frozen 3
  go_upto_region 5 with fail
  have K2 := Lib.hid K1.out.count
  have T2 : Hid (Tu (fun x => x = h ∨ S x) w (wd.setCell ⟨h, 3, none⟩ (.int .i64 ((p.n : Int) + 1)))) := T1.out.trans ((tu_set wd h 3 _).mono (fun x _ e => (.inl e : x = h ∨ S x))) (fun _ _ h => h)
  clear c3 z3 K1 T1
  generalize wd.setCell ⟨h, 3, none⟩ (.int .i64 ((p.n : Int) + 1)) = w1 at *
  have c0 := K2.out.c0
  have c2 : w1.cell? ⟨h, 2, none⟩ = some (.slice ko p.ks.length kc) := K2.out.c2
  obtain ⟨ro, rc, hrk⟩ := K2.out.rk.of
  have hrk : RkC S w1 gr q ro rc p.E := hrk
  have HC := Lib.hid (rremove_c hrk (fun x hx => hS x (Nat.le_trans T2.out.size hx)) n hn)
  clear hrk hn hl hS
  have I2 := Lib.hid (show Ints w1 ko p.ks from K2.out.ks)
  have L2 := Lib.hid (show p.ks.length ≤ 20 from K2.out.kl)
  rcases hks : p.ks with _ | ⟨a, r⟩
  · have hO := HO.out
    rw [hks] at hO
    cases hO
  rw [hks] at c2
  have hI := I2.out
  have hO := HO.out
  have hL := L2.out
  rw [hks] at hI hO hL
  obtain ⟨b, o, rfl, ca, hm⟩ := first_odd hI
  have he : (a.tmod 2 == 0) = false := by
    have hO2 : (a.tmod 2 != 0) = true := hO
    simpa using hO2
  rw [List.length_cons] at c2 hL
  obtain ⟨m, hmm⟩ : ∃ m, r.length + 1 = m := ⟨_, rfl⟩
  rw [hmm] at c2 hL
  have hm0 : ((m : Int) == 0) = false := by simp; omega
  have hm1 : (0 : Int) < (m : Int) := by omega
  have HK' := Lib.hid hks
  clear hks hI hO hmm
  go_wp2_with fail
  refine HC.out.mono ?_
  rintro R w2 ⟨rfl, hr2, ht2⟩
  have hq2 := K2.out.turn (p' := { p with n := p.n + 1, E := wrE 4 q p.E n t }) rfl ht2 (fun x _ e => .inr e) (K2.out.blk.tu ht2 K2.out.ng) hr2
  have Q2 := Lib.hid hq2
  have T3 := Lib.hid (T2.out.trans ht2 (fun x _ h => .inr h))
  clear hr2 ht2 hq2 c0
  go_wp2_with fail
  refine (rblow_c w2 Q2.out).mono ?_
  rintro R w3 ⟨rfl, hq3, ht3⟩
  rw [blow_on (p := { p with n := p.n + 1, E := wrE 4 q p.E n t }) HZ.out] at hq3
  have Q3 := Lib.hid hq3
  have T4 := Lib.hid ht3
  clear hq3 ht3
  go_wp2
  go_ret
  exact ⟨rfl, Q3.out, T3.out.trans T4.out (fun _ _ h => h)⟩
/-- A write of kind 4, whatever the power is. -/
theorem rdo4_c {S : Nat → Prop} {h gr q : Nat} {kc : Nat} {ko : Option Addr} {p : Pw} (n t : List UInt8) (w : World) (k : QwC S w h gr q ko kc p) (hS : ∀ x, w.heap.size ≤ x → S x) (hn : n.length ≤ maxLen) (hl : t.length ≤ maxLen) (hp : p.n < 1000000) :
    Calls Tryz.prog 62 #[.pointer (some ⟨h, 0, none⟩), .int .i64 4, .string (str n), .string (str t)] w fun R w' => R = .returned (.int .i64 (p.code (wrR 4 q p.E n t) : Nat)) ∧ QwC S w' h gr q ko kc (p.after (wrE 4 q p.E n t)) ∧ Tu (fun x => x = h ∨ S x) w w' := by
  cases hz : p.off
  · by_cases hf : (p.n : Int) = p.fu
    · have hcode : p.code (wrR 4 q p.E n t) = 8 := by unfold Pw.code; rw [hz, if_pos hf]; rfl
      have haft : p.after (wrE 4 q p.E n t) = { p with n := p.n + 1, off := true, E := aCrash p.ks (if oddK p.ks then wrE 4 q p.E n t else p.E) } := by unfold Pw.after; rw [hz, if_pos hf]; rfl
      rw [hcode, haft]
      cases ho : oddK p.ks
      · exact rdo_even 4 n t w k hz hf ho hp
      · exact rdo4_odd n t w k hS hn hl hz hf ho hp
    · have hcode : p.code (wrR 4 q p.E n t) = wrR 4 q p.E n t := by unfold Pw.code; rw [hz, if_neg hf]; rfl
      have haft : p.after (wrE 4 q p.E n t) = { p with n := p.n + 1, E := wrE 4 q p.E n t } := by unfold Pw.after; rw [hz, if_neg hf]; rfl
      rw [hcode, haft]
      exact rdo4_on n t w k hS hn hl hz hf hp
  · have hcode : p.code (wrR 4 q p.E n t) = 8 := by unfold Pw.code; rw [hz]; rfl
    have haft : p.after (wrE 4 q p.E n t) = p := by unfold Pw.after; rw [hz]; rfl
    rw [hcode, haft]
    refine (rdo_off 4 n t w k hz).mono ?_
    rintro R w' ⟨rfl, rfl⟩
    exact ⟨rfl, k, Tu.refl _ w⟩
end Go.Proofs.YtacgmadgkmcmoaaGreatDoor
