/- sync.Once's Do and doSlow over a power that goes off; goOff, Blow. -/
import Derived.Test.YthjhjbiihhpnfaaPd
namespace Go.Proofs.Ythjhjbiihhpnfaa
open Go.RowKit
set_option linter.unusedVariables false
set_option linter.unusedSimpArgs false
set_option maxRecDepth 100000

theorem PwC.tuK {S T : Nat → Prop} {w w' : World} {g q kc : Nat} {dv : Value} {ko : Option Addr} {p : Pw} (h : PwC S w g dv q ko kc p) (k : Tu T w w') (hs : ∀ x, x < w.heap.size → T x → x = g) : Ints w' ko p.ks ∧ DkS S w' dv q p.E := by
  refine ⟨?_, h.dk.tu k (fun x hx hS hT => h.ng (hs x hx hT ▸ hS))⟩
  by_cases h0 : p.ks = []
  · intro j hj; rw [h0] at hj; cases hj
  · exact h.ks.tu (k.mono (S' := fun x => T x ∧ x < w.heap.size) (fun x hx ht => ⟨ht, hx⟩)) (fun a e ht => (h.kf a e h0).1.2 (hs _ ht.2 ht.1))
/-- Behind Once.Do's slow road: off, crashed, the lock free again. -/
def SlowPost (S : Nat → Prop) (w : World) (g : Nat) (dv : Value) (q : Nat) (ko : Option Addr) (kc : Nat) (p : Pw) : Ending → World → Prop := fun R w' =>
  R = .returned (.tuple #[]) ∧ PwC S w' g dv q ko kc { p with off := true, E := aCrash p.ks p.E } ∧ Tu (fun x => x = g ∨ S x) w w'
set_option maxHeartbeats 4000000 in
theorem slow_c {S : Nat → Prop} {g q kc b : Nat} {dv : Value} {ko : Option Addr} {p : Pw} (w : World) (h : PwC S w g dv q ko kc p) (ho : p.off = false)
    (hb : w.cell? ⟨b, 0, none⟩ = some (.pointer (some ⟨g, 0, none⟩))) (hgb : b ≠ g) :
    Calls Try.prog 50 #[.pointer (some ⟨g, 5, none⟩), .func (.func 39) #[] #[.pointer (some ⟨b, 0, none⟩)]] w (SlowPost S w g dv q ko kc p) := by
  have hnot : ∀ (x : Bool) (w : World), (Op.unary .not (.bool x)).run Try.prog w = .ok (.bool (!x)) w := fun _ _ => rfl
  have c6 := Lib.hid h.c6
  have z6 := Lib.hid (h.blk.frozen 6)
  have hblk := h.blk
  unfold pcs at hblk
  rw [ho] at hblk
  have HC := Lib.hid hblk
  have H := Lib.hid h
  have HB := Lib.hid hb
  have HO := Lib.hid ho
  clear hblk h hb ho
  go_enter_defers Try.func50, Try.ntmps50
  go_wp2_with fail
  refine (lock_free ⟨g, 6, none⟩ w c6.out z6.out).mono ?_
  rintro R w1 ⟨rfl, hw1⟩
  have ht1 : Tu (fun x => x = g) w w1 := by rw [hw1]; exact tu_set w g 6 _
  have hc1 : Cells w1 g 54 #[dv, .int .i64 p.fu, .slice ko p.ks.length kc, .int .i64 p.n, .int .u32 0, .int .u32 0, .int .i32 1, .int .u32 0] := by rw [hw1]; exact HC.out.set 6 _
  have hb1 : w1.cell? ⟨b, 0, none⟩ = some (.pointer (some ⟨g, 0, none⟩)) := by
    rw [World.cell?_of_block (w := w) (ht1.block b (World.block_lt_of_cell? w _ HB.out) hgb)]; exact HB.out
  have hk1 := H.out.tuK ht1 (fun x _ e => e)
  have C1 := Lib.hid hc1
  have T1 := Lib.hid ht1
  have B1 := Lib.hid hb1
  have K1 := Lib.hid hk1
  clear hw1 ht1 hc1 hb1 hk1 HC c6 z6 HB
  go_wp2_with fail
  refine (bload_c ⟨g, 5, none⟩ 0 w1 (C1.out.cell 5)).mono ?_
  rintro R w2 ⟨rfl, rfl⟩
  have hb0 : ((0 : Int) != 0) = false := rfl
  rw [hb0]
  go_wp2_with fail
  refine (off_c w2 C1.out K1.out.1 H.out.kl (fun a e hn => ⟨(H.out.kf a e hn).1, Nat.lt_of_lt_of_le (H.out.kf a e hn).2 T1.out.size⟩) H.out.ng K1.out.2 B1.out hgb).mono ?_
  rintro R w3 ⟨rfl, hc3, hi3, hd3, ht3⟩
  have C3 := Lib.hid hc3
  have I3 := Lib.hid hi3
  have D3 := Lib.hid hd3
  have T3 := Lib.hid (ht3 : Tu (fun x => x = g ∨ S x) w2 w3)
  clear hc3 hi3 hd3 ht3 C1 K1 B1
  go_wp2
  refine leaves_cons (f := 40) (args := #[.pointer (some ⟨g, 5, none⟩), .bool true]) (by simp) (by simp [go_sem]) ?_
  refine (store_deferred ⟨g, 5, none⟩ (.int .u32 0) .returning _ (C3.out.cell 5) (C3.out.frozen 5)).mono ?_
  rintro e u' w4 ⟨rfl, rfl, hw4⟩
  have ht4 : Tu (fun x => x = g) w3 w4 := by rw [hw4]; exact (Tu.refl (fun x => x = g) w3).draw.trans (tu_set w3.drew g 5 _) (fun _ _ h => h)
  have hc4 : Cells w4 g 54 #[dv, .int .i64 p.fu, .slice ko p.ks.length kc, .int .i64 p.n, .int .u32 1, .int .u32 1, .int .i32 1, .int .u32 0] := by rw [hw4]; exact C3.out.drew.set 5 _
  refine leaves_cons (f := 60) (args := #[.pointer (some ⟨g, 6, none⟩)]) (by simp [settle]) (by simp [go_sem]) ?_
  refine (unlock_deferred ⟨g, 6, none⟩ _ _ (hc4.cell 6) (hc4.frozen 6)).mono ?_
  rintro e u' w5 ⟨rfl, rfl, hw5⟩
  have ht5 : Tu (fun x => x = g) w4 w5 := by rw [hw5]; exact tu_set w4 g 6 _
  have hc5 : Cells w5 g 54 #[dv, .int .i64 p.fu, .slice ko p.ks.length kc, .int .i64 p.n, .int .u32 1, .int .u32 1, .int .i32 0, .int .u32 0] := by rw [hw5]; exact hc4.set 6 _
  have ht35 := ht4.trans ht5 (fun _ _ h => h)
  have htt : Tu (fun x => x = g ∨ S x) w w5 := ((T1.out.mono (fun x _ h => .inl h)).trans T3.out (fun _ _ h => h)).trans (ht35.mono (fun x _ h => (.inl h : x = g ∨ S x))) (fun _ _ h => h)
  have hfin : PwC S w5 g dv q ko kc { p with off := true, E := aCrash p.ks p.E } := by
    refine ⟨hc5, ?_, H.out.kl, fun a e hn => ⟨(H.out.kf a e hn).1, Nat.lt_of_lt_of_le (H.out.kf a e hn).2 htt.size⟩, H.out.ng, D3.out.tu ht35 (fun x _ hS e => H.out.ng (e ▸ hS))⟩
    by_cases h0 : p.ks = []
    · intro j hj
      have hj2 : j < p.ks.length := hj
      rw [h0] at hj2
      cases hj2
    · exact I3.out.tu ht35 (fun a e => (H.out.kf a e h0).1.2)
  simp only [Leaves, settle, results, Try.results50]
  simp
  exact ⟨rfl, hfin, htt⟩
end Go.Proofs.Ythjhjbiihhpnfaa
