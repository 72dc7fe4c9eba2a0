/- The writer and the reader of a record's fields: one contract a method. -/
import Derived.Test.YthnelnfefllhpaaDoorQa
import Derived.Test.YthnelnfefllhpaaDoorTk
namespace Go.Proofs.YthnelnfefllhpaaDoor
open Go.RowKit
set_option linter.unusedVariables false
set_option linter.unusedSimpArgs false
set_option maxRecDepth 20000

theorem ws_drew {w : World} {g : Nat} {S : Nat → Prop} {bs : List UInt8} (h : Ws w g S bs) : Ws w.drew g S bs := h
theorem wsTo_drew {w w' : World} {g : Nat} {S : Nat → Prop} {bs : List UInt8} (h : WsTo w.drew g S bs w') : WsTo w g S bs w' := ⟨h.1, h.2.os, h.2.tape, h.2.output, h.2.size, h.2.block⟩
theorem wNumber (g gr o n : Nat) (S : Nat → Prop) (bs : List UInt8) (t : TypeId) (cs : Array Value) (w : World) (h : Ws w g S bs) (hl : bs.length ≤ 1099511627776) (hn : n < 18446744073709551616) (hr : Cells w gr t cs) (hv : cs[o]? = some (.int .u64 (n : Int))) :
    Calls Tryd.prog 88 #[.pointer (some ⟨g, 0, none⟩), .pointer (some ⟨gr, o, none⟩)] w fun E w' => E = .returned (.tuple #[]) ∧ WsTo w g S (bs ++ le 8 n) w' := by
  have c0 : w.cell? ⟨gr, o, none⟩ = some (.int .u64 (n : Int)) := by rw [hr.cell, hv]
  have HN := Lib.hid hn
  clear hn
  go_enter Tryd.func88, Tryd.ntmps88
  go_upto_region 0 with fail
  obtain ⟨wd, hwd⟩ : ∃ wd, ({ w with drawn := w.drawn + 1 } : World) = wd := ⟨_, rfl⟩
  have HD : Ws wd g S bs := by rw [← hwd]; exact h
  have HK : Hid (∀ w' bs', WsTo wd g S bs' w' → WsTo w g S bs' w') := by rw [← hwd]; exact fun _ _ h => wsTo_drew h
  have c1 := c0
  rw [show w.cell? ⟨gr, o, none⟩ = wd.cell? ⟨gr, o, none⟩ from by rw [← hwd]; rfl] at c1
  refine wp_region_still_tail 6 (by kernel_rfl) (by kernel_rfl) ?_
  simp only [List.take_succ_cons, List.take_zero, List.drop_succ_cons, List.drop_zero]
  rw [hwd]
  clear hwd
  repeat still_step
  refine wpStill_nil ?_
  go_wp2_with fail
  refine (wsU64 g n S bs _ HD hl HN.out).mono ?_
  rintro E w1 ⟨rfl, hw⟩
  go_wp2
  go_end0
  exact ⟨rfl, HK.out _ _ hw⟩
theorem wInput (g gr o n : Nat) (S : Nat → Prop) (bs : List UInt8) (t : TypeId) (cs : Array Value) (w : World) (h : Ws w g S bs) (hl : bs.length ≤ 1099511627776) (hn : n < 256) (hr : Cells w gr t cs) (hv : cs[o]? = some (.int .u8 (n : Int))) :
    Calls Tryd.prog 86 #[.pointer (some ⟨g, 0, none⟩), .pointer (some ⟨gr, o, none⟩)] w fun E w' => E = .returned (.tuple #[]) ∧ WsTo w g S (bs ++ le 1 n) w' := by
  have c0 : w.cell? ⟨gr, o, none⟩ = some (.int .u8 (n : Int)) := by rw [hr.cell, hv]
  have HN := Lib.hid hn
  clear hn
  go_enter Tryd.func86, Tryd.ntmps86
  go_upto_region 0 with fail
  obtain ⟨wd, hwd⟩ : ∃ wd, ({ w with drawn := w.drawn + 1 } : World) = wd := ⟨_, rfl⟩
  have HD : Ws wd g S bs := by rw [← hwd]; exact h
  have HK : Hid (∀ w' bs', WsTo wd g S bs' w' → WsTo w g S bs' w') := by rw [← hwd]; exact fun _ _ h => wsTo_drew h
  have c1 := c0
  rw [show w.cell? ⟨gr, o, none⟩ = wd.cell? ⟨gr, o, none⟩ from by rw [← hwd]; rfl] at c1
  refine wp_region_still_tail 6 (by kernel_rfl) (by kernel_rfl) ?_
  simp only [List.take_succ_cons, List.take_zero, List.drop_succ_cons, List.drop_zero]
  rw [hwd]
  clear hwd
  repeat still_step
  refine wpStill_nil ?_
  go_wp2_with fail
  refine (wsU8 g n S bs _ HD hl HN.out).mono ?_
  rintro E w1 ⟨rfl, hw⟩
  go_wp2
  go_end0
  exact ⟨rfl, HK.out _ _ hw⟩
theorem wPlayer (g gr o n : Nat) (S : Nat → Prop) (bs : List UInt8) (t : TypeId) (cs : Array Value) (w : World) (h : Ws w g S bs) (hl : bs.length ≤ 1099511627776) (hn : n < 256) (hr : Cells w gr t cs) (hv : cs[o]? = some (.int .u8 (n : Int))) :
    Calls Tryd.prog 89 #[.pointer (some ⟨g, 0, none⟩), .pointer (some ⟨gr, o, none⟩)] w fun E w' => E = .returned (.tuple #[]) ∧ WsTo w g S (bs ++ le 1 n) w' := by
  have c0 : w.cell? ⟨gr, o, none⟩ = some (.int .u8 (n : Int)) := by rw [hr.cell, hv]
  have HN := Lib.hid hn
  clear hn
  go_enter Tryd.func89, Tryd.ntmps89
  go_upto_region 0 with fail
  obtain ⟨wd, hwd⟩ : ∃ wd, ({ w with drawn := w.drawn + 1 } : World) = wd := ⟨_, rfl⟩
  have HD : Ws wd g S bs := by rw [← hwd]; exact h
  have HK : Hid (∀ w' bs', WsTo wd g S bs' w' → WsTo w g S bs' w') := by rw [← hwd]; exact fun _ _ h => wsTo_drew h
  have c1 := c0
  rw [show w.cell? ⟨gr, o, none⟩ = wd.cell? ⟨gr, o, none⟩ from by rw [← hwd]; rfl] at c1
  refine wp_region_still_tail 6 (by kernel_rfl) (by kernel_rfl) ?_
  simp only [List.take_succ_cons, List.take_zero, List.drop_succ_cons, List.drop_zero]
  rw [hwd]
  clear hwd
  repeat still_step
  refine wpStill_nil ?_
  go_wp2_with fail
  refine (wsU8 g n S bs _ HD hl HN.out).mono ?_
  rintro E w1 ⟨rfl, hw⟩
  go_wp2
  go_end0
  exact ⟨rfl, HK.out _ _ hw⟩
theorem wKind (g gr o n : Nat) (z : Int) (S : Nat → Prop) (bs : List UInt8) (t : TypeId) (cs : Array Value) (w : World) (h : Ws w g S bs) (hl : bs.length ≤ 1099511627776) (hn : n < 256) (hz : IntKind.u8.wrap z = (n : Int)) (hr : Cells w gr t cs) (hv : cs[o]? = some (.int .i64 z)) :
    Calls Tryd.prog 87 #[.pointer (some ⟨g, 0, none⟩), .pointer (some ⟨gr, o, none⟩)] w fun E w' => E = .returned (.tuple #[]) ∧ WsTo w g S (bs ++ le 1 n) w' := by
  have c0 : w.cell? ⟨gr, o, none⟩ = some (.int .i64 z) := by rw [hr.cell, hv]
  have HN := Lib.hid hn
  clear hn
  go_enter Tryd.func87, Tryd.ntmps87
  go_upto_region 0 with fail
  obtain ⟨wd, hwd⟩ : ∃ wd, ({ w with drawn := w.drawn + 1 } : World) = wd := ⟨_, rfl⟩
  have HD : Ws wd g S bs := by rw [← hwd]; exact h
  have HK : Hid (∀ w' bs', WsTo wd g S bs' w' → WsTo w g S bs' w') := by rw [← hwd]; exact fun _ _ h => wsTo_drew h
  have c1 := c0
  rw [show w.cell? ⟨gr, o, none⟩ = wd.cell? ⟨gr, o, none⟩ from by rw [← hwd]; rfl] at c1
  refine wp_region_still_tail 7 (by kernel_rfl) (by kernel_rfl) ?_
  simp only [List.take_succ_cons, List.take_zero, List.drop_succ_cons, List.drop_zero]
  rw [hwd]
  clear hwd
  repeat still_step
  refine wpStill_nil ?_
  go_wp2_with fail
  refine (wsU8 g n S bs _ HD hl HN.out).mono ?_
  rintro E w1 ⟨rfl, hw⟩
  go_wp2
  go_end0
  exact ⟨rfl, HK.out _ _ hw⟩
/-- A reader in block g, a record's cells in block gr; nothing else below a call's own has turned. -/
def Rr (w : World) (g gr : Nat) (l : List UInt8) (e : Int) (cs : Array Value) : Prop := Rd w g l e ∧ Cells w gr 28 cs ∧ g ≠ gr
def RrTo (w : World) (g gr : Nat) (l : List UInt8) (e : Int) (cs : Array Value) (w' : World) : Prop := Rr w' g gr l e cs ∧ Kept (fun k => k < w.heap.size ∧ k ≠ g ∧ k ≠ gr) w w'
theorem rrTo_trans {w w1 w2 : World} {g gr : Nat} {l l2 : List UInt8} {e e2 : Int} {cs cs2 : Array Value} (h : RrTo w g gr l e cs w1) (k : RrTo w1 g gr l2 e2 cs2 w2) : RrTo w g gr l2 e2 cs2 w2 :=
  ⟨k.1, h.2.trans (k.2.less fun i hi => ⟨Nat.lt_of_lt_of_le hi.1 h.2.size, hi.2⟩)⟩
theorem rr_to {w : World} {g gr : Nat} {l : List UInt8} {e : Int} {cs : Array Value} (h : Rr w g gr l e cs) : RrTo w g gr l e cs w := ⟨h, Kept.refl _ _⟩
theorem rr_box {w : World} {g gr : Nat} {l : List UInt8} {e : Int} {cs : Array Value} (h : Rr w g gr l e cs) (o : Obj) : RrTo w g gr l e cs (w.alloc o) :=
  ⟨⟨⟨h.1.1.alloc o, h.1.2⟩, h.2.1.alloc o, h.2.2⟩, kept_grown (grown_alloc w o) (fun _ hk => hk.1) (fun _ _ => by simp)⟩
theorem rr_read {w w' : World} {g gr : Nat} {l l' : List UInt8} {e e' : Int} {cs : Array Value} (h : Rr w g gr l e cs) (hr : RdTo w g l' e' w') : RrTo w g gr l' e' cs w' :=
  ⟨⟨hr.1, h.2.1.grown hr.2 (fun q => h.2.2 (Option.some.inj q).symm), h.2.2⟩, kept_grown hr.2 (fun _ hk => hk.1) (fun _ hk q => hk.2.1 (Option.some.inj q))⟩
theorem rr_set {w : World} {g gr : Nat} {l : List UInt8} {e : Int} {cs : Array Value} (h : Rr w g gr l e cs) (o : Nat) (v : Value) {cs' : Array Value} (hc : cs.setIfInBounds o v = cs') : RrTo w g gr l e cs' (w.setCell ⟨gr, o, none⟩ v) :=
  ⟨⟨⟨h.1.1.far h.2.2 v, h.1.2⟩, hc ▸ h.2.1.set o v, h.2.2⟩, kept_grown (grown_set w gr o v) (fun _ hk => hk.1) (fun _ hk q => hk.2.2 (Option.some.inj q))⟩
theorem rNumber (g gr o : Nat) (l : List UInt8) (e : Int) (cs cs' : Array Value) (old : Value) (w : World) (h : Rr w g gr l e cs) (hv : cs[o]? = some old) (hc : cs.setIfInBounds o (.int .u64 ((num 8 l).val : Int)) = cs') :
    Calls Tryd.prog 98 #[.agg #[.pointer (some ⟨g, 0, none⟩)], .pointer (some ⟨gr, o, none⟩)] w fun E w' => E = .returned (.tuple #[]) ∧ RrTo w g gr (num 8 l).rest (fin e (num 8 l).err) cs' w' := by
  have HC := Lib.hid hc
  clear hc
  have hx := num_val 8 l
  obtain ⟨n, hn⟩ : ∃ n, n = (num 8 l).val := ⟨_, rfl⟩
  rw [← hn] at hx HC
  have HN := Lib.hid hn
  clear hn
  have HB := Lib.hid (rr_box h (.cells #[.pointer (some ⟨g, 0, none⟩)] 103))
  go_enter Tryd.func98, Tryd.ntmps98
  go_wp2_with fail
  refine (rdU64 g l e _ HB.out.1.1).mono ?_
  rintro E w1 ⟨rfl, hw⟩
  rw [← HN.out]
  have hr := Lib.hid (rr_read HB.out.1 hw)
  have c0 : w1.cell? ⟨gr, o, none⟩ = some old := by rw [hr.out.1.2.1.cell, hv]
  have f0 := hr.out.1.2.1.frozen o
  clear hw
  go_wp2
  go_end0
  exact ⟨rfl, rrTo_trans HB.out (rrTo_trans hr.out (rr_set hr.out.1 o _ HC.out))⟩
theorem rInput (g gr o : Nat) (l : List UInt8) (e : Int) (cs cs' : Array Value) (old : Value) (w : World) (h : Rr w g gr l e cs) (hv : cs[o]? = some old) (hc : cs.setIfInBounds o (.int .u8 ((num 1 l).val : Int)) = cs') :
    Calls Tryd.prog 96 #[.agg #[.pointer (some ⟨g, 0, none⟩)], .pointer (some ⟨gr, o, none⟩)] w fun E w' => E = .returned (.tuple #[]) ∧ RrTo w g gr (num 1 l).rest (fin e (num 1 l).err) cs' w' := by
  have HC := Lib.hid hc
  clear hc
  have hx := num_val 1 l
  obtain ⟨n, hn⟩ : ∃ n, n = (num 1 l).val := ⟨_, rfl⟩
  rw [← hn] at hx HC
  have HN := Lib.hid hn
  clear hn
  have HB := Lib.hid (rr_box h (.cells #[.pointer (some ⟨g, 0, none⟩)] 103))
  go_enter Tryd.func96, Tryd.ntmps96
  go_wp2_with fail
  refine (rdU8 g l e _ HB.out.1.1).mono ?_
  rintro E w1 ⟨rfl, hw⟩
  rw [← HN.out]
  have hr := Lib.hid (rr_read HB.out.1 hw)
  have c0 : w1.cell? ⟨gr, o, none⟩ = some old := by rw [hr.out.1.2.1.cell, hv]
  have f0 := hr.out.1.2.1.frozen o
  clear hw
  go_wp2
  go_end0
  exact ⟨rfl, rrTo_trans HB.out (rrTo_trans hr.out (rr_set hr.out.1 o _ HC.out))⟩
theorem rPlayer (g gr o : Nat) (l : List UInt8) (e : Int) (cs cs' : Array Value) (old : Value) (w : World) (h : Rr w g gr l e cs) (hv : cs[o]? = some old) (hc : cs.setIfInBounds o (.int .u8 ((num 1 l).val : Int)) = cs') :
    Calls Tryd.prog 99 #[.agg #[.pointer (some ⟨g, 0, none⟩)], .pointer (some ⟨gr, o, none⟩)] w fun E w' => E = .returned (.tuple #[]) ∧ RrTo w g gr (num 1 l).rest (fin e (num 1 l).err) cs' w' := by
  have HC := Lib.hid hc
  clear hc
  have hx := num_val 1 l
  obtain ⟨n, hn⟩ : ∃ n, n = (num 1 l).val := ⟨_, rfl⟩
  rw [← hn] at hx HC
  have HN := Lib.hid hn
  clear hn
  have HB := Lib.hid (rr_box h (.cells #[.pointer (some ⟨g, 0, none⟩)] 103))
  go_enter Tryd.func99, Tryd.ntmps99
  go_wp2_with fail
  refine (rdU8 g l e _ HB.out.1.1).mono ?_
  rintro E w1 ⟨rfl, hw⟩
  rw [← HN.out]
  have hr := Lib.hid (rr_read HB.out.1 hw)
  have c0 : w1.cell? ⟨gr, o, none⟩ = some old := by rw [hr.out.1.2.1.cell, hv]
  have f0 := hr.out.1.2.1.frozen o
  clear hw
  go_wp2
  go_end0
  exact ⟨rfl, rrTo_trans HB.out (rrTo_trans hr.out (rr_set hr.out.1 o _ HC.out))⟩
theorem rKind (g gr o : Nat) (l : List UInt8) (e : Int) (cs cs' : Array Value) (old : Value) (w : World) (h : Rr w g gr l e cs) (hv : cs[o]? = some old) (hc : cs.setIfInBounds o (.int .i64 ((num 1 l).val : Int)) = cs') :
    Calls Tryd.prog 97 #[.agg #[.pointer (some ⟨g, 0, none⟩)], .pointer (some ⟨gr, o, none⟩)] w fun E w' => E = .returned (.tuple #[]) ∧ RrTo w g gr (num 1 l).rest (fin e (num 1 l).err) cs' w' := by
  have HC := Lib.hid hc
  clear hc
  have hx := num_val 1 l
  simp only [Nat.pow_one] at hx
  obtain ⟨n, hn⟩ : ∃ n, n = (num 1 l).val := ⟨_, rfl⟩
  rw [← hn] at hx HC
  have HN := Lib.hid hn
  clear hn
  have HB := Lib.hid (rr_box h (.cells #[.pointer (some ⟨g, 0, none⟩)] 103))
  go_enter Tryd.func97, Tryd.ntmps97
  go_wp2_with fail
  refine (rdU8 g l e _ HB.out.1.1).mono ?_
  rintro E w1 ⟨rfl, hw⟩
  rw [← HN.out]
  have hr := Lib.hid (rr_read HB.out.1 hw)
  have c0 : w1.cell? ⟨gr, o, none⟩ = some old := by rw [hr.out.1.2.1.cell, hv]
  have f0 := hr.out.1.2.1.frozen o
  clear hw
  go_wp2
  go_end0
  exact ⟨rfl, rrTo_trans HB.out (rrTo_trans hr.out (rr_set hr.out.1 o _ HC.out))⟩
end Go.Proofs.YthnelnfefllhpaaDoor
