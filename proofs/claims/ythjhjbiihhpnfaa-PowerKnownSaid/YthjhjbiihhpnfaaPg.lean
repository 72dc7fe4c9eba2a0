/- A write of a power, whatever it calls of the disk. -/
import Derived.Test.YthjhjbiihhpnfaaPf
namespace Go.Proofs.Ythjhjbiihhpnfaa
open Go.RowKit
set_option linter.unusedVariables false
set_option linter.unusedSimpArgs false
set_option maxRecDepth 100000

/-- The error and the power behind a write that would answer r and leave the files E'. -/
def WrPost (S : Nat → Prop) (w : World) (g : Nat) (dv : Value) (q : Nat) (ko : Option Addr) (kc : Nat) (p : Pw) (r : Nat) (E' : List Ent) : Ending → World → Prop := fun R w' =>
  R = .returned (.int .i64 (p.code r : Nat)) ∧ PwC S w' g dv q ko kc (p.after E') ∧ Tu (fun x => x = g ∨ S x) w w'
/-- What a write calls of the disk. -/
def Does (S : Nat → Prop) (w : World) (g : Nat) (K : Nat) (cap : Array Value) (dv : Value) (q : Nat) (E : List Ent) (r : Nat) (E' : List Ent) : Prop :=
  ∀ w1, Tu (fun x => x = g) w w1 → DkS S w1 dv q E → Calls Try.prog K (#[dv] ++ cap) w1 fun R w2 => R = .returned (.int .i64 (r : Nat)) ∧ DkS S w2 dv q E' ∧ Tu S w1 w2
theorem PwC.turn {S T : Nat → Prop} {w w' : World} {g q kc : Nat} {dv : Value} {ko : Option Addr} {p p' : Pw} (h : PwC S w g dv q ko kc p) (hk : p'.ks = p.ks) (k : Tu T w w') (hT : ∀ x, x < w.heap.size → T x → x = g ∨ S x)
    (hc : Cells w' g 54 (pcs dv ko kc p')) (hd : DkS S w' dv q p'.E) : PwC S w' g dv q ko kc p' := by
  refine ⟨hc, ?_, hk ▸ h.kl, fun a e hn => ?_, h.ng, hd⟩
  · rw [hk]
    by_cases h0 : p.ks = []
    · intro j hj; rw [h0] at hj; cases hj
    · exact h.ks.tu (k.mono (S' := fun x => T x ∧ x < w.heap.size) (fun x hx ht => ⟨ht, hx⟩)) (fun a e ht => by
        have := (h.kf a e h0).1
        rcases hT _ ht.2 ht.1 with e | e
        · exact this.2 e
        · exact this.1 e)
  · rw [hk] at hn
    exact ⟨(h.kf a e hn).1, Nat.lt_of_lt_of_le (h.kf a e hn).2 k.size⟩
set_option maxHeartbeats 4000000 in
theorem write_c {S : Nat → Prop} {g q K r kc : Nat} {ko : Option Addr} {dv : Value} {p : Pw} {cap : Array Value} {E' : List Ent} (hin : ∀ (args : Array Value) (w : World), (callFunc K args).run Try.prog w = .ok (.enter K args) w)
    (w : World) (h : PwC S w g dv q ko kc p) (hn : p.n < 1000000) (hdo : Does S w g K cap dv q p.E r E') :
    Calls Try.prog 20 #[.pointer (some ⟨g, 0, none⟩), .func (.func K) #[] cap] w (WrPost S w g dv q ko kc p r E') := by
  obtain ⟨gd, rfl⟩ := h.dk.ptr1
  have H0 := Lib.hid h
  have H := Lib.hid h
  have HDO := Lib.hid hdo
  clear h hdo
  cases hz : p.off
  rotate_left
  · have hcode : p.code r = 8 := by unfold Pw.code; rw [hz]; rfl
    have haft : p.after E' = p := by unfold Pw.after; rw [hz]; rfl
    have hchk : p.chk = 8 := by unfold Pw.chk; rw [hz]; rfl
    unfold WrPost
    rw [hcode, haft]
    clear hcode haft hz
    go_enter Try.func20, Try.ntmps20
    go_wp2_with fail
    refine (pcheck_c w H0.out).mono ?_
    rintro R w1 ⟨rfl, rfl⟩
    rw [hchk]
    go_wp2
    go_ret
    exact ⟨rfl, H0.out, Tu.refl _ w⟩
  have hchk : p.chk = 0 := by unfold Pw.chk; rw [hz]; rfl
  obtain ⟨m, hm⟩ : ∃ m : Int, m = (p.n : Int) + 1 := ⟨_, rfl⟩
  have hmw : IntKind.i64.wrap ((p.n : Int) + 1) = m := by rw [hm]; exact IntWalk.i64_in _ (by omega)
  have hmb : IntKind.i64.wrap (m - 1) = (p.n : Int) := by rw [hm, show (p.n : Int) + 1 - 1 = p.n by omega]; exact IntWalk.i64_in _ (by omega)
  have hcm : ((p.n + 1 : Nat) : Int) = m := by omega
  have hm0 : 0 < m := by omega
  have hmu : m < 9223372036854775807 := by omega
  have HM := Lib.hid hmw
  have HM2 := Lib.hid hcm
  clear hm hmw hcm
  have hpc : pcs (.pointer (some ⟨gd, 0, none⟩)) ko kc p = #[.pointer (some ⟨gd, 0, none⟩), .int .i64 p.fu, .slice ko p.ks.length kc, .int .i64 p.n, .int .u32 0, .int .u32 0, .int .i32 0, .int .u32 0] := by unfold pcs; rw [hz]; rfl
  have hc0 := H.out.blk
  rw [hpc] at hc0
  have C0 := Lib.hid hc0
  clear hpc hc0
  by_cases hf : (p.n : Int) = p.fu
  · have hcode : p.code r = 8 := by unfold Pw.code; rw [hz, if_pos hf]; rfl
    have haft : p.after E' = { p with n := p.n + 1, off := true, E := aCrash p.ks (if oddK p.ks then E' else p.E) } := by unfold Pw.after; rw [hz, if_pos hf]; rfl
    unfold WrPost
    rw [hcode, haft]
    have HZ := Lib.hid hz
    clear hcode haft hz
    cases hodd : oddK p.ks
    · have HO := Lib.hid hodd
      clear hodd
      have hfu : ((p.n : Int) != p.fu) = false := by simp [hf]
      have HF := Lib.hid hf
      clear hf
      go_enter Try.func20, Try.ntmps20
      go_wp2_with fail
      refine (pcheck_c w H0.out).mono ?_
      rintro R w1 ⟨rfl, rfl⟩
      rw [hchk]
      go_wp2_with fail
      refine (iadd_c ⟨g, 3, none⟩ p.n m w (C0.out.cell 3) (C0.out.frozen 3) HM.out).mono ?_
      rintro R w1 ⟨rfl, hw1⟩
      have ht1 : Tu (fun x => x = g) w w1 := by rw [hw1]; exact tu_set w g 3 _
      have hc1 : Cells w1 g 54 #[.pointer (some ⟨gd, 0, none⟩), .int .i64 p.fu, .slice ko p.ks.length kc, .int .i64 m, .int .u32 0, .int .u32 0, .int .i32 0, .int .u32 0] := by rw [hw1]; exact C0.out.set 3 _
      have hp1 : PwC S w1 g (.pointer (some ⟨gd, 0, none⟩)) q ko kc { p with n := p.n + 1 } := by
        refine H.out.turn rfl ht1 (fun x _ e => .inl e) ?_ (H.out.tuK ht1 (fun x _ e => e)).2
        unfold pcs
        rw [HZ.out, HM2.out]
        exact hc1
      have c0 := hc1.cell 0
      have c1 := hc1.cell 1
      have P1 := Lib.hid hp1
      have T1 := Lib.hid ht1
      clear hw1 ht1 hc1 hp1
      go_wp2_with fail
      refine (done_c (p := { p with n := p.n + 1 }) w1 P1.out).mono ?_
      rintro R w2 ⟨rfl, rfl⟩
      dsimp only
      rw [HO.out]
      go_wp2_with fail
      refine (goOff_c w1 P1.out).mono ?_
      rintro R w2 ⟨rfl, hp2, ht2⟩
      rw [blow_on (p := { p with n := p.n + 1 }) HZ.out] at hp2
      have P2 := Lib.hid hp2
      have T2 := Lib.hid ht2
      clear hp2 ht2
      go_wp2
      go_ret
      refine ⟨rfl, ?_, (T1.out.mono (fun x _ e => .inl e)).trans T2.out (fun _ _ h => h)⟩
      exact P2.out
    · have HO := Lib.hid hodd
      clear hodd
      have hfu : ((p.n : Int) != p.fu) = false := by simp [hf]
      have HF := Lib.hid hf
      clear hf
      go_enter Try.func20, Try.ntmps20
      go_wp2_with fail
      refine (pcheck_c w H0.out).mono ?_
      rintro R w1 ⟨rfl, rfl⟩
      rw [hchk]
      go_wp2_with fail
      refine (iadd_c ⟨g, 3, none⟩ p.n m w (C0.out.cell 3) (C0.out.frozen 3) HM.out).mono ?_
      rintro R w1 ⟨rfl, hw1⟩
      have ht1 : Tu (fun x => x = g) w w1 := by rw [hw1]; exact tu_set w g 3 _
      have hc1 : Cells w1 g 54 #[.pointer (some ⟨gd, 0, none⟩), .int .i64 p.fu, .slice ko p.ks.length kc, .int .i64 m, .int .u32 0, .int .u32 0, .int .i32 0, .int .u32 0] := by rw [hw1]; exact C0.out.set 3 _
      have hp1 : PwC S w1 g (.pointer (some ⟨gd, 0, none⟩)) q ko kc { p with n := p.n + 1 } := by
        refine H.out.turn rfl ht1 (fun x _ e => .inl e) ?_ (H.out.tuK ht1 (fun x _ e => e)).2
        unfold pcs
        rw [HZ.out, HM2.out]
        exact hc1
      have c0 := hc1.cell 0
      have c1 := hc1.cell 1
      have P1 := Lib.hid hp1
      have T1 := Lib.hid ht1
      clear hw1 ht1 hc1 hp1
      go_wp2_with fail
      refine (done_c (p := { p with n := p.n + 1 }) w1 P1.out).mono ?_
      rintro R w2 ⟨rfl, rfl⟩
      dsimp only
      rw [HO.out]
      go_wp2_with fail
      refine (HDO.out w1 T1.out P1.out.dk).mono ?_
      rintro R w2 ⟨rfl, hd2, ht2⟩
      have hp2 : PwC S w2 g (.pointer (some ⟨gd, 0, none⟩)) q ko kc { p with n := p.n + 1, E := E' } := P1.out.turn rfl ht2 (fun x _ h => .inr h) (P1.out.blk.tu ht2 P1.out.ng) hd2
      have P2 := Lib.hid hp2
      have T2 := Lib.hid ((T1.out.mono (fun x _ e => (.inl e : x = g ∨ S x))).trans ht2 (fun x _ h => .inr h))
      clear hd2 hp2 ht2 c0 c1
      go_wp2_with fail
      refine (goOff_c w2 P2.out).mono ?_
      rintro R w3 ⟨rfl, hp3, ht3⟩
      rw [blow_on (p := { p with n := p.n + 1, E := E' }) HZ.out] at hp3
      have P3 := Lib.hid hp3
      have T3 := Lib.hid ht3
      clear hp3 ht3
      go_wp2
      go_ret
      exact ⟨rfl, P3.out, T2.out.trans T3.out (fun _ _ h => h)⟩
  · have hcode : p.code r = r := by unfold Pw.code; rw [hz, if_neg hf]; rfl
    have haft : p.after E' = { p with n := p.n + 1, E := E' } := by unfold Pw.after; rw [hz, if_neg hf]; rfl
    unfold WrPost
    rw [hcode, haft]
    have HZ := Lib.hid hz
    clear hcode haft hz
    have hfu : ((p.n : Int) != p.fu) = true := by simp [hf]
    clear hf
    go_enter Try.func20, Try.ntmps20
    go_wp2_with fail
    refine (pcheck_c w H0.out).mono ?_
    rintro R w1 ⟨rfl, rfl⟩
    rw [hchk]
    go_wp2_with fail
    refine (iadd_c ⟨g, 3, none⟩ p.n m w (C0.out.cell 3) (C0.out.frozen 3) HM.out).mono ?_
    rintro R w1 ⟨rfl, hw1⟩
    have ht1 : Tu (fun x => x = g) w w1 := by rw [hw1]; exact tu_set w g 3 _
    have hc1 : Cells w1 g 54 #[.pointer (some ⟨gd, 0, none⟩), .int .i64 p.fu, .slice ko p.ks.length kc, .int .i64 m, .int .u32 0, .int .u32 0, .int .i32 0, .int .u32 0] := by rw [hw1]; exact C0.out.set 3 _
    have hp1 : PwC S w1 g (.pointer (some ⟨gd, 0, none⟩)) q ko kc { p with n := p.n + 1 } := by
      refine H.out.turn rfl ht1 (fun x _ e => .inl e) ?_ (H.out.tuK ht1 (fun x _ e => e)).2
      unfold pcs
      rw [HZ.out, HM2.out]
      exact hc1
    have c0 := hc1.cell 0
    have c1 := hc1.cell 1
    have P1 := Lib.hid hp1
    have T1 := Lib.hid ht1
    clear hw1 ht1 hc1 hp1
    go_wp2_with fail
    refine (HDO.out w1 T1.out P1.out.dk).mono ?_
    rintro R w2 ⟨rfl, hd2, ht2⟩
    have hp2 : PwC S w2 g (.pointer (some ⟨gd, 0, none⟩)) q ko kc { p with n := p.n + 1, E := E' } := P1.out.turn rfl ht2 (fun x _ h => .inr h) (P1.out.blk.tu ht2 P1.out.ng) hd2
    have P2 := Lib.hid hp2
    have T2 := Lib.hid ((T1.out.mono (fun x _ e => (.inl e : x = g ∨ S x))).trans ht2 (fun x _ h => .inr h))
    clear hd2 hp2 ht2 c0 c1
    go_wp2
    go_ret
    exact ⟨rfl, P2.out, T2.out⟩
end Go.Proofs.Ythjhjbiihhpnfaa
