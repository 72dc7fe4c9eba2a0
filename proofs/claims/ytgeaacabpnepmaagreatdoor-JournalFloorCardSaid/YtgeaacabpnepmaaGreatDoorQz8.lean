/- Texts of the walk. -/
import Derived.Test.YtgeaacabpnepmaaGreatDoorAf8
import Derived.Test.YtgeaacabpnepmaaGreatDoorTk8
import Derived.Laws.StructEq
import Derived.ChangeKeysEq
/- Texts of elder layers, one behind the other. -/
/- The writer and the reader of a record's fields: one contract a method. -/
namespace Go.Proofs.YtgeaacabpnepmaaGreatDoor
open Go.RowKit
set_option linter.unusedVariables false
set_option linter.unusedSimpArgs false
set_option maxRecDepth 20000

theorem wsTo_drew {w w' : World} {g : Nat} {S : Nat → Prop} {bs : List UInt8} (h : WsTo w.drew g S bs w') : WsTo w g S bs w' := ⟨h.1, h.2.os, h.2.tape, h.2.output, h.2.size, h.2.block⟩
theorem wNumber (g gr o n : Nat) (S : Nat → Prop) (bs : List UInt8) (t : TypeId) (cs : Array Value) (w : World) (h : Ws w g S bs) (hl : bs.length ≤ 1099511627776) (hn : n < 18446744073709551616) (hr : Cells w gr t cs) (hv : cs[o]? = some (.int .u64 (n : Int))) :
    Calls Tryz.prog 336 #[.pointer (some ⟨g, 0, none⟩), .pointer (some ⟨gr, o, none⟩)] w fun E w' => E = .returned (.tuple #[]) ∧ WsTo w g S (bs ++ le 8 n) w' := by
  have c0 : w.cell? ⟨gr, o, none⟩ = some (.int .u64 (n : Int)) := by rw [hr.cell, hv]
  have HN := Lib.hid hn
  clear hn
  go_enter Tryz.func336, Tryz.ntmps336
  go_upto_region 0 with fail
  obtain ⟨wd, hwd⟩ : ∃ wd, ({ w with drawn := w.drawn + 1 } : World) = wd := ⟨_, rfl⟩
  have HD : Ws wd g S bs := by rw [← hwd]; exact h
  have HK : Hid (∀ w' bs', WsTo wd g S bs' w' → WsTo w g S bs' w') := by rw [← hwd]; exact fun _ _ h => wsTo_drew h
  have c1 := c0
  rw [show w.cell? ⟨gr, o, none⟩ = wd.cell? ⟨gr, o, none⟩ from by rw [← hwd]; rfl] at c1
  refine wp_region_still_tail 6 (by kernel_rfl) (by kernel_rfl) ?_
  simp only [List.take_succ_cons, List.take_zero, List.drop_succ_cons, List.drop_zero]
  rw [hwd]
  clear hwd
  repeat still_step
  refine wpStill_nil ?_
  go_wp2_with fail
  refine (wsU64 g n S bs _ HD hl HN.out).mono ?_
  rintro E w1 ⟨rfl, hw⟩
  go_wp2
  go_end0
  exact ⟨rfl, HK.out _ _ hw⟩
theorem wInput (g gr o n : Nat) (S : Nat → Prop) (bs : List UInt8) (t : TypeId) (cs : Array Value) (w : World) (h : Ws w g S bs) (hl : bs.length ≤ 1099511627776) (hn : n < 256) (hr : Cells w gr t cs) (hv : cs[o]? = some (.int .u8 (n : Int))) :
    Calls Tryz.prog 334 #[.pointer (some ⟨g, 0, none⟩), .pointer (some ⟨gr, o, none⟩)] w fun E w' => E = .returned (.tuple #[]) ∧ WsTo w g S (bs ++ le 1 n) w' := by
  have c0 : w.cell? ⟨gr, o, none⟩ = some (.int .u8 (n : Int)) := by rw [hr.cell, hv]
  have HN := Lib.hid hn
  clear hn
  go_enter Tryz.func334, Tryz.ntmps334
  go_upto_region 0 with fail
  obtain ⟨wd, hwd⟩ : ∃ wd, ({ w with drawn := w.drawn + 1 } : World) = wd := ⟨_, rfl⟩
  have HD : Ws wd g S bs := by rw [← hwd]; exact h
  have HK : Hid (∀ w' bs', WsTo wd g S bs' w' → WsTo w g S bs' w') := by rw [← hwd]; exact fun _ _ h => wsTo_drew h
  have c1 := c0
  rw [show w.cell? ⟨gr, o, none⟩ = wd.cell? ⟨gr, o, none⟩ from by rw [← hwd]; rfl] at c1
  refine wp_region_still_tail 6 (by kernel_rfl) (by kernel_rfl) ?_
  simp only [List.take_succ_cons, List.take_zero, List.drop_succ_cons, List.drop_zero]
  rw [hwd]
  clear hwd
  repeat still_step
  refine wpStill_nil ?_
  go_wp2_with fail
  refine (wsU8 g n S bs _ HD hl HN.out).mono ?_
  rintro E w1 ⟨rfl, hw⟩
  go_wp2
  go_end0
  exact ⟨rfl, HK.out _ _ hw⟩
theorem wPlayer (g gr o n : Nat) (S : Nat → Prop) (bs : List UInt8) (t : TypeId) (cs : Array Value) (w : World) (h : Ws w g S bs) (hl : bs.length ≤ 1099511627776) (hn : n < 256) (hr : Cells w gr t cs) (hv : cs[o]? = some (.int .u8 (n : Int))) :
    Calls Tryz.prog 337 #[.pointer (some ⟨g, 0, none⟩), .pointer (some ⟨gr, o, none⟩)] w fun E w' => E = .returned (.tuple #[]) ∧ WsTo w g S (bs ++ le 1 n) w' := by
  have c0 : w.cell? ⟨gr, o, none⟩ = some (.int .u8 (n : Int)) := by rw [hr.cell, hv]
  have HN := Lib.hid hn
  clear hn
  go_enter Tryz.func337, Tryz.ntmps337
  go_upto_region 0 with fail
  obtain ⟨wd, hwd⟩ : ∃ wd, ({ w with drawn := w.drawn + 1 } : World) = wd := ⟨_, rfl⟩
  have HD : Ws wd g S bs := by rw [← hwd]; exact h
  have HK : Hid (∀ w' bs', WsTo wd g S bs' w' → WsTo w g S bs' w') := by rw [← hwd]; exact fun _ _ h => wsTo_drew h
  have c1 := c0
  rw [show w.cell? ⟨gr, o, none⟩ = wd.cell? ⟨gr, o, none⟩ from by rw [← hwd]; rfl] at c1
  refine wp_region_still_tail 6 (by kernel_rfl) (by kernel_rfl) ?_
  simp only [List.take_succ_cons, List.take_zero, List.drop_succ_cons, List.drop_zero]
  rw [hwd]
  clear hwd
  repeat still_step
  refine wpStill_nil ?_
  go_wp2_with fail
  refine (wsU8 g n S bs _ HD hl HN.out).mono ?_
  rintro E w1 ⟨rfl, hw⟩
  go_wp2
  go_end0
  exact ⟨rfl, HK.out _ _ hw⟩
theorem wKind (g gr o n : Nat) (z : Int) (S : Nat → Prop) (bs : List UInt8) (t : TypeId) (cs : Array Value) (w : World) (h : Ws w g S bs) (hl : bs.length ≤ 1099511627776) (hn : n < 256) (hz : IntKind.u8.wrap z = (n : Int)) (hr : Cells w gr t cs) (hv : cs[o]? = some (.int .i64 z)) :
    Calls Tryz.prog 335 #[.pointer (some ⟨g, 0, none⟩), .pointer (some ⟨gr, o, none⟩)] w fun E w' => E = .returned (.tuple #[]) ∧ WsTo w g S (bs ++ le 1 n) w' := by
  have c0 : w.cell? ⟨gr, o, none⟩ = some (.int .i64 z) := by rw [hr.cell, hv]
  have HN := Lib.hid hn
  clear hn
  go_enter Tryz.func335, Tryz.ntmps335
  go_upto_region 0 with fail
  obtain ⟨wd, hwd⟩ : ∃ wd, ({ w with drawn := w.drawn + 1 } : World) = wd := ⟨_, rfl⟩
  have HD : Ws wd g S bs := by rw [← hwd]; exact h
  have HK : Hid (∀ w' bs', WsTo wd g S bs' w' → WsTo w g S bs' w') := by rw [← hwd]; exact fun _ _ h => wsTo_drew h
  have c1 := c0
  rw [show w.cell? ⟨gr, o, none⟩ = wd.cell? ⟨gr, o, none⟩ from by rw [← hwd]; rfl] at c1
  refine wp_region_still_tail 7 (by kernel_rfl) (by kernel_rfl) ?_
  simp only [List.take_succ_cons, List.take_zero, List.drop_succ_cons, List.drop_zero]
  rw [hwd]
  clear hwd
  repeat still_step
  refine wpStill_nil ?_
  go_wp2_with fail
  refine (wsU8 g n S bs _ HD hl HN.out).mono ?_
  rintro E w1 ⟨rfl, hw⟩
  go_wp2
  go_end0
  exact ⟨rfl, HK.out _ _ hw⟩
def Rr (w : World) (g gr : Nat) (l : List UInt8) (e : Int) (cs : Array Value) : Prop := Rd w g l e ∧ Cells w gr 114 cs ∧ g ≠ gr
def RrTo (w : World) (g gr : Nat) (l : List UInt8) (e : Int) (cs : Array Value) (w' : World) : Prop := Rr w' g gr l e cs ∧ Kept (fun k => k < w.heap.size ∧ k ≠ g ∧ k ≠ gr) w w'
theorem rrTo_trans {w w1 w2 : World} {g gr : Nat} {l l2 : List UInt8} {e e2 : Int} {cs cs2 : Array Value} (h : RrTo w g gr l e cs w1) (k : RrTo w1 g gr l2 e2 cs2 w2) : RrTo w g gr l2 e2 cs2 w2 :=
  ⟨k.1, h.2.trans (k.2.less fun i hi => ⟨Nat.lt_of_lt_of_le hi.1 h.2.size, hi.2⟩)⟩
theorem rr_to {w : World} {g gr : Nat} {l : List UInt8} {e : Int} {cs : Array Value} (h : Rr w g gr l e cs) : RrTo w g gr l e cs w := ⟨h, Kept.refl _ _⟩
theorem rr_box {w : World} {g gr : Nat} {l : List UInt8} {e : Int} {cs : Array Value} (h : Rr w g gr l e cs) (o : Obj) : RrTo w g gr l e cs (w.alloc o) :=
  ⟨⟨⟨h.1.1.alloc o, h.1.2⟩, h.2.1.alloc o, h.2.2⟩, kept_grown (grown_alloc w o) (fun _ hk => hk.1) (fun _ _ => by simp)⟩
theorem rr_read {w w' : World} {g gr : Nat} {l l' : List UInt8} {e e' : Int} {cs : Array Value} (h : Rr w g gr l e cs) (hr : RdTo w g l' e' w') : RrTo w g gr l' e' cs w' :=
  ⟨⟨hr.1, h.2.1.grown hr.2 (fun q => h.2.2 (Option.some.inj q).symm), h.2.2⟩, kept_grown hr.2 (fun _ hk => hk.1) (fun _ hk q => hk.2.1 (Option.some.inj q))⟩
theorem rr_set {w : World} {g gr : Nat} {l : List UInt8} {e : Int} {cs : Array Value} (h : Rr w g gr l e cs) (o : Nat) (v : Value) {cs' : Array Value} (hc : cs.setIfInBounds o v = cs') : RrTo w g gr l e cs' (w.setCell ⟨gr, o, none⟩ v) :=
  ⟨⟨⟨h.1.1.far h.2.2 v, h.1.2⟩, hc ▸ h.2.1.set o v, h.2.2⟩, kept_grown (grown_set w gr o v) (fun _ hk => hk.1) (fun _ hk q => hk.2.2 (Option.some.inj q))⟩
theorem rNumber (g gr o : Nat) (l : List UInt8) (e : Int) (cs cs' : Array Value) (old : Value) (w : World) (h : Rr w g gr l e cs) (hv : cs[o]? = some old) (hc : cs.setIfInBounds o (.int .u64 ((num 8 l).val : Int)) = cs') :
    Calls Tryz.prog 341 #[.agg #[.pointer (some ⟨g, 0, none⟩)], .pointer (some ⟨gr, o, none⟩)] w fun E w' => E = .returned (.tuple #[]) ∧ RrTo w g gr (num 8 l).rest (fin e (num 8 l).err) cs' w' := by
  have HC := Lib.hid hc
  clear hc
  have hx := num_val 8 l
  obtain ⟨n, hn⟩ : ∃ n, n = (num 8 l).val := ⟨_, rfl⟩
  rw [← hn] at hx HC
  have HN := Lib.hid hn
  clear hn
  have HB := Lib.hid (rr_box h (.cells #[.pointer (some ⟨g, 0, none⟩)] 345))
  go_enter Tryz.func341, Tryz.ntmps341
  go_wp2_with fail
  refine (rdU64 g l e _ HB.out.1.1).mono ?_
  rintro E w1 ⟨rfl, hw⟩
  rw [← HN.out]
  have hr := Lib.hid (rr_read HB.out.1 hw)
  have c0 : w1.cell? ⟨gr, o, none⟩ = some old := by rw [hr.out.1.2.1.cell, hv]
  have f0 := hr.out.1.2.1.frozen o
  clear hw
  go_wp2
  go_end0
  exact ⟨rfl, rrTo_trans HB.out (rrTo_trans hr.out (rr_set hr.out.1 o _ HC.out))⟩
theorem rInput (g gr o : Nat) (l : List UInt8) (e : Int) (cs cs' : Array Value) (old : Value) (w : World) (h : Rr w g gr l e cs) (hv : cs[o]? = some old) (hc : cs.setIfInBounds o (.int .u8 ((num 1 l).val : Int)) = cs') :
    Calls Tryz.prog 339 #[.agg #[.pointer (some ⟨g, 0, none⟩)], .pointer (some ⟨gr, o, none⟩)] w fun E w' => E = .returned (.tuple #[]) ∧ RrTo w g gr (num 1 l).rest (fin e (num 1 l).err) cs' w' := by
  have HC := Lib.hid hc
  clear hc
  have hx := num_val 1 l
  obtain ⟨n, hn⟩ : ∃ n, n = (num 1 l).val := ⟨_, rfl⟩
  rw [← hn] at hx HC
  have HN := Lib.hid hn
  clear hn
  have HB := Lib.hid (rr_box h (.cells #[.pointer (some ⟨g, 0, none⟩)] 345))
  go_enter Tryz.func339, Tryz.ntmps339
  go_wp2_with fail
  refine (rdU8 g l e _ HB.out.1.1).mono ?_
  rintro E w1 ⟨rfl, hw⟩
  rw [← HN.out]
  have hr := Lib.hid (rr_read HB.out.1 hw)
  have c0 : w1.cell? ⟨gr, o, none⟩ = some old := by rw [hr.out.1.2.1.cell, hv]
  have f0 := hr.out.1.2.1.frozen o
  clear hw
  go_wp2
  go_end0
  exact ⟨rfl, rrTo_trans HB.out (rrTo_trans hr.out (rr_set hr.out.1 o _ HC.out))⟩
theorem rPlayer (g gr o : Nat) (l : List UInt8) (e : Int) (cs cs' : Array Value) (old : Value) (w : World) (h : Rr w g gr l e cs) (hv : cs[o]? = some old) (hc : cs.setIfInBounds o (.int .u8 ((num 1 l).val : Int)) = cs') :
    Calls Tryz.prog 342 #[.agg #[.pointer (some ⟨g, 0, none⟩)], .pointer (some ⟨gr, o, none⟩)] w fun E w' => E = .returned (.tuple #[]) ∧ RrTo w g gr (num 1 l).rest (fin e (num 1 l).err) cs' w' := by
  have HC := Lib.hid hc
  clear hc
  have hx := num_val 1 l
  obtain ⟨n, hn⟩ : ∃ n, n = (num 1 l).val := ⟨_, rfl⟩
  rw [← hn] at hx HC
  have HN := Lib.hid hn
  clear hn
  have HB := Lib.hid (rr_box h (.cells #[.pointer (some ⟨g, 0, none⟩)] 345))
  go_enter Tryz.func342, Tryz.ntmps342
  go_wp2_with fail
  refine (rdU8 g l e _ HB.out.1.1).mono ?_
  rintro E w1 ⟨rfl, hw⟩
  rw [← HN.out]
  have hr := Lib.hid (rr_read HB.out.1 hw)
  have c0 : w1.cell? ⟨gr, o, none⟩ = some old := by rw [hr.out.1.2.1.cell, hv]
  have f0 := hr.out.1.2.1.frozen o
  clear hw
  go_wp2
  go_end0
  exact ⟨rfl, rrTo_trans HB.out (rrTo_trans hr.out (rr_set hr.out.1 o _ HC.out))⟩
theorem rKind (g gr o : Nat) (l : List UInt8) (e : Int) (cs cs' : Array Value) (old : Value) (w : World) (h : Rr w g gr l e cs) (hv : cs[o]? = some old) (hc : cs.setIfInBounds o (.int .i64 ((num 1 l).val : Int)) = cs') :
    Calls Tryz.prog 340 #[.agg #[.pointer (some ⟨g, 0, none⟩)], .pointer (some ⟨gr, o, none⟩)] w fun E w' => E = .returned (.tuple #[]) ∧ RrTo w g gr (num 1 l).rest (fin e (num 1 l).err) cs' w' := by
  have HC := Lib.hid hc
  clear hc
  have hx := num_val 1 l
  simp only [Nat.pow_one] at hx
  obtain ⟨n, hn⟩ : ∃ n, n = (num 1 l).val := ⟨_, rfl⟩
  rw [← hn] at hx HC
  have HN := Lib.hid hn
  clear hn
  have HB := Lib.hid (rr_box h (.cells #[.pointer (some ⟨g, 0, none⟩)] 345))
  go_enter Tryz.func340, Tryz.ntmps340
  go_wp2_with fail
  refine (rdU8 g l e _ HB.out.1.1).mono ?_
  rintro E w1 ⟨rfl, hw⟩
  rw [← HN.out]
  have hr := Lib.hid (rr_read HB.out.1 hw)
  have c0 : w1.cell? ⟨gr, o, none⟩ = some old := by rw [hr.out.1.2.1.cell, hv]
  have f0 := hr.out.1.2.1.frozen o
  clear hw
  go_wp2
  go_end0
  exact ⟨rfl, rrTo_trans HB.out (rrTo_trans hr.out (rr_set hr.out.1 o _ HC.out))⟩
end Go.Proofs.YtgeaacabpnepmaaGreatDoor
/- What a record's encoding consists of: gone through by a writer. One contract a kind. -/
namespace Go.Proofs.YtgeaacabpnepmaaGreatDoor
open Go.RowKit
set_option linter.unusedVariables false
set_option linter.unusedSimpArgs false
set_option maxRecDepth 20000

theorem na_wkind (n : Nat) (a : Addr) (w : World) : (nilAhead (n + 1) 296 (.pointer (some a)) "hindcast/record.kind").run Tryz.prog w = .ok (some false) w := by kernel_rfl
theorem me_wkind (n : Nat) (a : Addr) (w : World) : (method (n + 1) 296 (.pointer (some a)) "hindcast/record.kind").run Tryz.prog w = .ok (335, .pointer (some a)) w := by kernel_rfl
theorem na_rkind (n : Nat) (a : Addr) (w : World) : (nilAhead (n + 1) 345 (.agg #[.pointer (some a)]) "hindcast/record.kind").run Tryz.prog w = .ok (some false) w := by kernel_rfl
theorem me_rkind (n : Nat) (a : Addr) (w : World) : (method (n + 1) 345 (.agg #[.pointer (some a)]) "hindcast/record.kind").run Tryz.prog w = .ok (340, .agg #[.pointer (some a)]) w := by kernel_rfl
theorem na_wnumber (n : Nat) (a : Addr) (w : World) : (nilAhead (n + 1) 296 (.pointer (some a)) "hindcast/record.number").run Tryz.prog w = .ok (some false) w := by kernel_rfl
theorem me_wnumber (n : Nat) (a : Addr) (w : World) : (method (n + 1) 296 (.pointer (some a)) "hindcast/record.number").run Tryz.prog w = .ok (336, .pointer (some a)) w := by kernel_rfl
theorem na_rnumber (n : Nat) (a : Addr) (w : World) : (nilAhead (n + 1) 345 (.agg #[.pointer (some a)]) "hindcast/record.number").run Tryz.prog w = .ok (some false) w := by kernel_rfl
theorem me_rnumber (n : Nat) (a : Addr) (w : World) : (method (n + 1) 345 (.agg #[.pointer (some a)]) "hindcast/record.number").run Tryz.prog w = .ok (341, .agg #[.pointer (some a)]) w := by kernel_rfl
theorem na_winput (n : Nat) (a : Addr) (w : World) : (nilAhead (n + 1) 296 (.pointer (some a)) "hindcast/record.input").run Tryz.prog w = .ok (some false) w := by kernel_rfl
theorem me_winput (n : Nat) (a : Addr) (w : World) : (method (n + 1) 296 (.pointer (some a)) "hindcast/record.input").run Tryz.prog w = .ok (334, .pointer (some a)) w := by kernel_rfl
theorem na_rinput (n : Nat) (a : Addr) (w : World) : (nilAhead (n + 1) 345 (.agg #[.pointer (some a)]) "hindcast/record.input").run Tryz.prog w = .ok (some false) w := by kernel_rfl
theorem me_rinput (n : Nat) (a : Addr) (w : World) : (method (n + 1) 345 (.agg #[.pointer (some a)]) "hindcast/record.input").run Tryz.prog w = .ok (339, .agg #[.pointer (some a)]) w := by kernel_rfl
theorem na_wplayer (n : Nat) (a : Addr) (w : World) : (nilAhead (n + 1) 296 (.pointer (some a)) "hindcast/record.player").run Tryz.prog w = .ok (some false) w := by kernel_rfl
theorem me_wplayer (n : Nat) (a : Addr) (w : World) : (method (n + 1) 296 (.pointer (some a)) "hindcast/record.player").run Tryz.prog w = .ok (337, .pointer (some a)) w := by kernel_rfl
theorem na_rplayer (n : Nat) (a : Addr) (w : World) : (nilAhead (n + 1) 345 (.agg #[.pointer (some a)]) "hindcast/record.player").run Tryz.prog w = .ok (some false) w := by kernel_rfl
theorem me_rplayer (n : Nat) (a : Addr) (w : World) : (method (n + 1) 345 (.agg #[.pointer (some a)]) "hindcast/record.player").run Tryz.prog w = .ok (342, .agg #[.pointer (some a)]) w := by kernel_rfl
attribute [local go_sem] na_wkind na_wnumber na_winput na_wplayer na_rkind na_rnumber na_rinput na_rplayer me_wkind me_wnumber me_winput me_wplayer me_rkind me_rnumber me_rinput me_rplayer
theorem ws_cells {w w' : World} {g : Nat} {S : Nat → Prop} {bs : List UInt8} {gr : Nat} {t : TypeId} {cs : Array Value} (h : WsTo w g S bs w') (hr : Cells w gr t cs) (hS : S gr) : Cells w' gr t cs := (h.2.block gr hS).trans hr
theorem wsTo_dr {w w1 : World} {g : Nat} {S : Nat → Prop} {bs : List UInt8} (h : WsTo w g S bs w1) : WsTo w g S bs w1.drew := ⟨h.1, h.2.os, h.2.tape, h.2.output, h.2.size, h.2.block⟩
set_option maxHeartbeats 1000000 in
theorem encW0 (g gr : Nat) (S : Nat → Prop) (k : Int) (f o p q s i e y : Nat) (w : World) (h1 : k ≠ 1) (h2 : k ≠ 2) (h3 : k ≠ 3) (hf : Rc.fit ⟨k, f, o, p, q, s, i, e, y⟩) (h : Ws w g S []) (hr : Cells w gr 114 (rcs ⟨k, f, o, p, q, s, i, e, y⟩)) (hS : S gr) :
    Calls Tryz.prog 226 #[.iface 296 (.pointer (some ⟨g, 0, none⟩)), .pointer (some ⟨gr, 0, none⟩)] w fun E w' => E = .returned (.bool false) ∧ WsTo w g S (le 1 (k % 256).toNat) w' := by
  have b1 : (k == 1) = false := by simp [h1]
  have b2 : (k == 2) = false := by simp [h2]
  have b3 : (k == 3) = false := by simp [h3]
  clear h1 h2 h3
  have HF := Lib.hid hf
  clear hf
  have DR : ∀ {w1 : World} {bs : List UInt8}, WsTo w g S bs w1 → WsTo w g S bs w1.drew := fun h => wsTo_dr h
  have HRR := Lib.hid hr
  have HW0 := Lib.hid (ws_to h)
  go_enter Tryz.func226, Tryz.ntmps226
  go_upto_region 1 with fail
  obtain ⟨d1, hwd⟩ : ∃ wd, ({ w with drawn := w.drawn + 1 } : World) = wd := ⟨_, rfl⟩
  have W1 : Hid (WsTo w g S [] d1) := by show WsTo w g S [] d1; rw [← hwd]; exact DR (HW0).out
  refine wp_region_still_tail 7 (by kernel_rfl) (by kernel_rfl) ?_
  simp only [List.take_succ_cons, List.take_zero, List.drop_succ_cons, List.drop_zero]
  rw [hwd]
  clear hwd
  repeat still_step
  refine wpStill_nil ?_
  go_wp2_with fail
  refine (wKind g gr 0 ((k % 256).toNat) (k) S [] _ _ _ W1.out.1 (by simp) (by first | omega | decide) (by first | decide | exact kb_wrap ⟨k, f, o, p, q, s, i, e, y⟩) (ws_cells W1.out hr hS) rfl).mono ?_
  rintro E w1 ⟨rfl, hw1⟩
  have HW1 := Lib.hid (wsTo_trans W1.out hw1)
  clear hw1 W1
  have r1 := ws_cells HW1.out hr hS
  have c1 : w1.cell? ⟨gr, 0, none⟩ = some (.int .i64 k) := by rw [r1.cell]; rfl
  go_wp2
  go_ret
  exact ⟨rfl, by simpa only [List.nil_append] using HW1.out⟩
set_option maxHeartbeats 1000000 in
theorem encW1 (g gr : Nat) (S : Nat → Prop) (f o p q s i e y : Nat) (w : World) (hf : Rc.fit ⟨1, f, o, p, q, s, i, e, y⟩) (h : Ws w g S []) (hr : Cells w gr 114 (rcs ⟨1, f, o, p, q, s, i, e, y⟩)) (hS : S gr) :
    Calls Tryz.prog 226 #[.iface 296 (.pointer (some ⟨g, 0, none⟩)), .pointer (some ⟨gr, 0, none⟩)] w fun E w' => E = .returned (.bool true) ∧ WsTo w g S (le 1 1 ++ le 8 f ++ le 1 o) w' := by
  have HF := Lib.hid hf
  clear hf
  have DR : ∀ {w1 : World} {bs : List UInt8}, WsTo w g S bs w1 → WsTo w g S bs w1.drew := fun h => wsTo_dr h
  have HRR := Lib.hid hr
  have HW0 := Lib.hid (ws_to h)
  go_enter Tryz.func226, Tryz.ntmps226
  go_upto_region 1 with fail
  obtain ⟨d1, hwd⟩ : ∃ wd, ({ w with drawn := w.drawn + 1 } : World) = wd := ⟨_, rfl⟩
  have W1 : Hid (WsTo w g S [] d1) := by show WsTo w g S [] d1; rw [← hwd]; exact DR (HW0).out
  refine wp_region_still_tail 7 (by kernel_rfl) (by kernel_rfl) ?_
  simp only [List.take_succ_cons, List.take_zero, List.drop_succ_cons, List.drop_zero]
  rw [hwd]
  clear hwd
  repeat still_step
  refine wpStill_nil ?_
  go_wp2_with fail
  refine (wKind g gr 0 (1) (1) S [] _ _ _ W1.out.1 (by simp) (by first | omega | decide) (by first | decide | exact kb_wrap ⟨1, f, o, p, q, s, i, e, y⟩) (ws_cells W1.out hr hS) rfl).mono ?_
  rintro E w1 ⟨rfl, hw1⟩
  have HW1 := Lib.hid (wsTo_trans W1.out hw1)
  clear hw1 W1
  have r1 := ws_cells HW1.out hr hS
  have c1 : w1.cell? ⟨gr, 0, none⟩ = some (.int .i64 1) := by rw [r1.cell]; rfl
  go_upto_region 5 with fail
  obtain ⟨d2, hwd⟩ : ∃ wd, ({ w1 with drawn := w1.drawn + 1 } : World) = wd := ⟨_, rfl⟩
  have W2 : Hid (WsTo w g S ([] ++ le 1 1) d2) := by show WsTo w g S ([] ++ le 1 1) d2; rw [← hwd]; exact DR (HW1).out
  refine wp_region_still_tail 7 (by kernel_rfl) (by kernel_rfl) ?_
  simp only [List.take_succ_cons, List.take_zero, List.drop_succ_cons, List.drop_zero]
  rw [hwd]
  clear hwd
  repeat still_step
  refine wpStill_nil ?_
  go_wp2_with fail
  clear c1
  refine (wNumber g gr 1 f S _ _ _ _ W2.out.1 (by simp [le_length]) HF.out.f (ws_cells W2.out hr hS) rfl).mono ?_
  rintro E w2 ⟨rfl, hw2⟩
  have HW2 := Lib.hid (wsTo_trans W2.out hw2)
  clear hw2 W2
  go_upto_region 6 with fail
  obtain ⟨d3, hwd⟩ : ∃ wd, ({ w2 with drawn := w2.drawn + 1 } : World) = wd := ⟨_, rfl⟩
  have W3 : Hid (WsTo w g S ([] ++ le 1 1 ++ le 8 f) d3) := by show WsTo w g S ([] ++ le 1 1 ++ le 8 f) d3; rw [← hwd]; exact DR (HW2).out
  refine wp_region_still_tail 7 (by kernel_rfl) (by kernel_rfl) ?_
  simp only [List.take_succ_cons, List.take_zero, List.drop_succ_cons, List.drop_zero]
  rw [hwd]
  clear hwd
  repeat still_step
  refine wpStill_nil ?_
  go_wp2_with fail
  refine (wInput g gr 2 o S _ _ _ _ W3.out.1 (by simp [le_length]) HF.out.o (ws_cells W3.out hr hS) rfl).mono ?_
  rintro E w3 ⟨rfl, hw3⟩
  have HW3 := Lib.hid (wsTo_trans W3.out hw3)
  clear hw3 W3
  go_wp2
  go_ret
  exact ⟨rfl, by simpa only [List.nil_append] using HW3.out⟩
set_option maxHeartbeats 1000000 in
theorem encW2 (g gr : Nat) (S : Nat → Prop) (f o p q s i e y : Nat) (w : World) (hf : Rc.fit ⟨2, f, o, p, q, s, i, e, y⟩) (h : Ws w g S []) (hr : Cells w gr 114 (rcs ⟨2, f, o, p, q, s, i, e, y⟩)) (hS : S gr) :
    Calls Tryz.prog 226 #[.iface 296 (.pointer (some ⟨g, 0, none⟩)), .pointer (some ⟨gr, 0, none⟩)] w fun E w' => E = .returned (.bool true) ∧ WsTo w g S (le 1 2 ++ le 8 f ++ le 1 p ++ le 1 q) w' := by
  have HF := Lib.hid hf
  clear hf
  have DR : ∀ {w1 : World} {bs : List UInt8}, WsTo w g S bs w1 → WsTo w g S bs w1.drew := fun h => wsTo_dr h
  have HRR := Lib.hid hr
  have HW0 := Lib.hid (ws_to h)
  go_enter Tryz.func226, Tryz.ntmps226
  go_upto_region 1 with fail
  obtain ⟨d1, hwd⟩ : ∃ wd, ({ w with drawn := w.drawn + 1 } : World) = wd := ⟨_, rfl⟩
  have W1 : Hid (WsTo w g S [] d1) := by show WsTo w g S [] d1; rw [← hwd]; exact DR (HW0).out
  refine wp_region_still_tail 7 (by kernel_rfl) (by kernel_rfl) ?_
  simp only [List.take_succ_cons, List.take_zero, List.drop_succ_cons, List.drop_zero]
  rw [hwd]
  clear hwd
  repeat still_step
  refine wpStill_nil ?_
  go_wp2_with fail
  refine (wKind g gr 0 (2) (2) S [] _ _ _ W1.out.1 (by simp) (by first | omega | decide) (by first | decide | exact kb_wrap ⟨2, f, o, p, q, s, i, e, y⟩) (ws_cells W1.out hr hS) rfl).mono ?_
  rintro E w1 ⟨rfl, hw1⟩
  have HW1 := Lib.hid (wsTo_trans W1.out hw1)
  clear hw1 W1
  have r1 := ws_cells HW1.out hr hS
  have c1 : w1.cell? ⟨gr, 0, none⟩ = some (.int .i64 2) := by rw [r1.cell]; rfl
  go_upto_region 8 with fail
  obtain ⟨d2, hwd⟩ : ∃ wd, ({ w1 with drawn := w1.drawn + 1 } : World) = wd := ⟨_, rfl⟩
  have W2 : Hid (WsTo w g S ([] ++ le 1 2) d2) := by show WsTo w g S ([] ++ le 1 2) d2; rw [← hwd]; exact DR (HW1).out
  refine wp_region_still_tail 7 (by kernel_rfl) (by kernel_rfl) ?_
  simp only [List.take_succ_cons, List.take_zero, List.drop_succ_cons, List.drop_zero]
  rw [hwd]
  clear hwd
  repeat still_step
  refine wpStill_nil ?_
  go_wp2_with fail
  clear c1
  refine (wNumber g gr 1 f S _ _ _ _ W2.out.1 (by simp [le_length]) HF.out.f (ws_cells W2.out hr hS) rfl).mono ?_
  rintro E w2 ⟨rfl, hw2⟩
  have HW2 := Lib.hid (wsTo_trans W2.out hw2)
  clear hw2 W2
  go_upto_region 9 with fail
  obtain ⟨d3, hwd⟩ : ∃ wd, ({ w2 with drawn := w2.drawn + 1 } : World) = wd := ⟨_, rfl⟩
  have W3 : Hid (WsTo w g S ([] ++ le 1 2 ++ le 8 f) d3) := by show WsTo w g S ([] ++ le 1 2 ++ le 8 f) d3; rw [← hwd]; exact DR (HW2).out
  refine wp_region_still_tail 8 (by kernel_rfl) (by kernel_rfl) ?_
  simp only [List.take_succ_cons, List.take_zero, List.drop_succ_cons, List.drop_zero]
  rw [hwd]
  clear hwd
  repeat still_step
  refine wpStill_nil ?_
  go_wp2_with fail
  refine (wInput g gr 3 p S _ _ _ _ W3.out.1 (by simp [le_length]) HF.out.p (ws_cells W3.out hr hS) rfl).mono ?_
  rintro E w3 ⟨rfl, hw3⟩
  have HW3 := Lib.hid (wsTo_trans W3.out hw3)
  clear hw3 W3
  go_upto_region 10 with fail
  obtain ⟨d4, hwd⟩ : ∃ wd, ({ w3 with drawn := w3.drawn + 1 } : World) = wd := ⟨_, rfl⟩
  have W4 : Hid (WsTo w g S ([] ++ le 1 2 ++ le 8 f ++ le 1 p) d4) := by show WsTo w g S ([] ++ le 1 2 ++ le 8 f ++ le 1 p) d4; rw [← hwd]; exact DR (HW3).out
  refine wp_region_still_tail 8 (by kernel_rfl) (by kernel_rfl) ?_
  simp only [List.take_succ_cons, List.take_zero, List.drop_succ_cons, List.drop_zero]
  rw [hwd]
  clear hwd
  repeat still_step
  refine wpStill_nil ?_
  go_wp2_with fail
  refine (wInput g gr 4 q S _ _ _ _ W4.out.1 (by simp [le_length]) HF.out.q (ws_cells W4.out hr hS) rfl).mono ?_
  rintro E w4 ⟨rfl, hw4⟩
  have HW4 := Lib.hid (wsTo_trans W4.out hw4)
  clear hw4 W4
  go_wp2
  go_ret
  exact ⟨rfl, by simpa only [List.nil_append] using HW4.out⟩
set_option maxHeartbeats 1000000 in
theorem encW3 (g gr : Nat) (S : Nat → Prop) (f o p q s i e y : Nat) (w : World) (hf : Rc.fit ⟨3, f, o, p, q, s, i, e, y⟩) (h : Ws w g S []) (hr : Cells w gr 114 (rcs ⟨3, f, o, p, q, s, i, e, y⟩)) (hS : S gr) :
    Calls Tryz.prog 226 #[.iface 296 (.pointer (some ⟨g, 0, none⟩)), .pointer (some ⟨gr, 0, none⟩)] w fun E w' => E = .returned (.bool true) ∧ WsTo w g S (le 1 3 ++ le 8 s ++ le 8 i ++ le 8 e ++ le 1 y) w' := by
  have HF := Lib.hid hf
  clear hf
  have DR : ∀ {w1 : World} {bs : List UInt8}, WsTo w g S bs w1 → WsTo w g S bs w1.drew := fun h => wsTo_dr h
  have HRR := Lib.hid hr
  have HW0 := Lib.hid (ws_to h)
  go_enter Tryz.func226, Tryz.ntmps226
  go_upto_region 1 with fail
  obtain ⟨d1, hwd⟩ : ∃ wd, ({ w with drawn := w.drawn + 1 } : World) = wd := ⟨_, rfl⟩
  have W1 : Hid (WsTo w g S [] d1) := by show WsTo w g S [] d1; rw [← hwd]; exact DR (HW0).out
  refine wp_region_still_tail 7 (by kernel_rfl) (by kernel_rfl) ?_
  simp only [List.take_succ_cons, List.take_zero, List.drop_succ_cons, List.drop_zero]
  rw [hwd]
  clear hwd
  repeat still_step
  refine wpStill_nil ?_
  go_wp2_with fail
  refine (wKind g gr 0 (3) (3) S [] _ _ _ W1.out.1 (by simp) (by first | omega | decide) (by first | decide | exact kb_wrap ⟨3, f, o, p, q, s, i, e, y⟩) (ws_cells W1.out hr hS) rfl).mono ?_
  rintro E w1 ⟨rfl, hw1⟩
  have HW1 := Lib.hid (wsTo_trans W1.out hw1)
  clear hw1 W1
  have r1 := ws_cells HW1.out hr hS
  have c1 : w1.cell? ⟨gr, 0, none⟩ = some (.int .i64 3) := by rw [r1.cell]; rfl
  go_upto_region 12 with fail
  obtain ⟨d2, hwd⟩ : ∃ wd, ({ w1 with drawn := w1.drawn + 1 } : World) = wd := ⟨_, rfl⟩
  have W2 : Hid (WsTo w g S ([] ++ le 1 3) d2) := by show WsTo w g S ([] ++ le 1 3) d2; rw [← hwd]; exact DR (HW1).out
  refine wp_region_still_tail 7 (by kernel_rfl) (by kernel_rfl) ?_
  simp only [List.take_succ_cons, List.take_zero, List.drop_succ_cons, List.drop_zero]
  rw [hwd]
  clear hwd
  repeat still_step
  refine wpStill_nil ?_
  go_wp2_with fail
  clear c1
  refine (wNumber g gr 5 s S _ _ _ _ W2.out.1 (by simp [le_length]) HF.out.s (ws_cells W2.out hr hS) rfl).mono ?_
  rintro E w2 ⟨rfl, hw2⟩
  have HW2 := Lib.hid (wsTo_trans W2.out hw2)
  clear hw2 W2
  go_upto_region 13 with fail
  obtain ⟨d3, hwd⟩ : ∃ wd, ({ w2 with drawn := w2.drawn + 1 } : World) = wd := ⟨_, rfl⟩
  have W3 : Hid (WsTo w g S ([] ++ le 1 3 ++ le 8 s) d3) := by show WsTo w g S ([] ++ le 1 3 ++ le 8 s) d3; rw [← hwd]; exact DR (HW2).out
  refine wp_region_still_tail 7 (by kernel_rfl) (by kernel_rfl) ?_
  simp only [List.take_succ_cons, List.take_zero, List.drop_succ_cons, List.drop_zero]
  rw [hwd]
  clear hwd
  repeat still_step
  refine wpStill_nil ?_
  go_wp2_with fail
  refine (wNumber g gr 6 i S _ _ _ _ W3.out.1 (by simp [le_length]) HF.out.i (ws_cells W3.out hr hS) rfl).mono ?_
  rintro E w3 ⟨rfl, hw3⟩
  have HW3 := Lib.hid (wsTo_trans W3.out hw3)
  clear hw3 W3
  go_upto_region 14 with fail
  obtain ⟨d4, hwd⟩ : ∃ wd, ({ w3 with drawn := w3.drawn + 1 } : World) = wd := ⟨_, rfl⟩
  have W4 : Hid (WsTo w g S ([] ++ le 1 3 ++ le 8 s ++ le 8 i) d4) := by show WsTo w g S ([] ++ le 1 3 ++ le 8 s ++ le 8 i) d4; rw [← hwd]; exact DR (HW3).out
  refine wp_region_still_tail 7 (by kernel_rfl) (by kernel_rfl) ?_
  simp only [List.take_succ_cons, List.take_zero, List.drop_succ_cons, List.drop_zero]
  rw [hwd]
  clear hwd
  repeat still_step
  refine wpStill_nil ?_
  go_wp2_with fail
  refine (wNumber g gr 7 e S _ _ _ _ W4.out.1 (by simp [le_length]) HF.out.e (ws_cells W4.out hr hS) rfl).mono ?_
  rintro E w4 ⟨rfl, hw4⟩
  have HW4 := Lib.hid (wsTo_trans W4.out hw4)
  clear hw4 W4
  go_upto_region 15 with fail
  obtain ⟨d5, hwd⟩ : ∃ wd, ({ w4 with drawn := w4.drawn + 1 } : World) = wd := ⟨_, rfl⟩
  have W5 : Hid (WsTo w g S ([] ++ le 1 3 ++ le 8 s ++ le 8 i ++ le 8 e) d5) := by show WsTo w g S ([] ++ le 1 3 ++ le 8 s ++ le 8 i ++ le 8 e) d5; rw [← hwd]; exact DR (HW4).out
  refine wp_region_still_tail 7 (by kernel_rfl) (by kernel_rfl) ?_
  simp only [List.take_succ_cons, List.take_zero, List.drop_succ_cons, List.drop_zero]
  rw [hwd]
  clear hwd
  repeat still_step
  refine wpStill_nil ?_
  go_wp2_with fail
  refine (wPlayer g gr 8 y S _ _ _ _ W5.out.1 (by simp [le_length]) HF.out.y (ws_cells W5.out hr hS) rfl).mono ?_
  rintro E w5 ⟨rfl, hw5⟩
  have HW5 := Lib.hid (wsTo_trans W5.out hw5)
  clear hw5 W5
  go_wp2
  go_ret
  exact ⟨rfl, by simpa only [List.nil_append] using HW5.out⟩
def knB (r : Rc) : Bool := decide (r.k = 1 ∨ r.k = 2 ∨ r.k = 3)
theorem encW (g gr : Nat) (S : Nat → Prop) (r : Rc) (w : World) (hf : r.fit) (h : Ws w g S []) (hr : Cells w gr 114 (rcs r)) (hS : S gr) :
    Calls Tryz.prog 226 #[.iface 296 (.pointer (some ⟨g, 0, none⟩)), .pointer (some ⟨gr, 0, none⟩)] w fun E w' => E = .returned (.bool (knB r)) ∧ WsTo w g S (encR r) w' := by
  obtain ⟨k, f, o, p, q, s, i, e, y⟩ := r
  by_cases h1 : k = 1
  · subst h1
    exact (encW1 g gr S f o p q s i e y w hf h hr hS).mono fun _ _ ⟨a, b⟩ => ⟨a, by simpa [encR, encK, kb] using b⟩
  · by_cases h2 : k = 2
    · subst h2
      exact (encW2 g gr S f o p q s i e y w hf h hr hS).mono fun _ _ ⟨a, b⟩ => ⟨a, by simpa [encR, encK, kb] using b⟩
    · by_cases h3 : k = 3
      · subst h3
        exact (encW3 g gr S f o p q s i e y w hf h hr hS).mono fun _ _ ⟨a, b⟩ => ⟨a, by simpa [encR, encK, kb] using b⟩
      · exact (encW0 g gr S k f o p q s i e y w h1 h2 h3 hf h hr hS).mono fun _ _ ⟨a, b⟩ => ⟨by simp [a, knB, h1, h2, h3], by simpa [encR, encK, kb, h1, h2, h3] using b⟩
end Go.Proofs.YtgeaacabpnepmaaGreatDoor
/- What a record's encoding consists of: gone through by a reader. One contract a kind. -/
namespace Go.Proofs.YtgeaacabpnepmaaGreatDoor
open Go.RowKit
set_option linter.unusedVariables false
set_option linter.unusedSimpArgs false
set_option maxRecDepth 20000

attribute [local go_sem] na_wkind na_wnumber na_winput na_wplayer na_rkind na_rnumber na_rinput na_rplayer me_wkind me_wnumber me_winput me_wplayer me_rkind me_rnumber me_rinput me_rplayer
theorem rrTo_dr {w w1 : World} {g gr : Nat} {l : List UInt8} {e : Int} {cs : Array Value} (h : RrTo w g gr l e cs w1) : RrTo w g gr l e cs w1.drew := ⟨h.1, h.2.os, h.2.tape, h.2.output, h.2.size, h.2.block⟩
set_option maxHeartbeats 1000000 in
theorem encR0 (g gr : Nat) (l : List UInt8) (w : World) (h : Rr w g gr l 0 (rcs rz)) (h1 : (num 1 l).val ≠ 1) (h2 : (num 1 l).val ≠ 2) (h3 : (num 1 l).val ≠ 3) :
    Calls Tryz.prog 226 #[.iface 345 (.agg #[.pointer (some ⟨g, 0, none⟩)]), .pointer (some ⟨gr, 0, none⟩)] w fun E w' => E = .returned (.bool (rdE l).known) ∧ RrTo w g gr (rdE l).rest (rdE l).err (rcs (rdE l).val) w' := by
  have HE : Hid (rdE l = ⟨false, (num 1 l).err, (num 1 l).rest, ⟨((num 1 l).val : Int), 0, 0, 0, 0, 0, 0, 0, 0⟩⟩) := by
    show _ = _
    unfold rdE
    simp only []
    rw [if_neg h1, if_neg h2, if_neg h3]
  obtain ⟨k, hk⟩ : ∃ k, k = (num 1 l).val := ⟨_, rfl⟩
  rw [← hk] at h1 h2 h3
  have HKK := Lib.hid hk
  clear hk
  have b1 : ((k : Int) == 1) = false := by simp; omega
  have b2 : ((k : Int) == 2) = false := by simp; omega
  have b3 : ((k : Int) == 3) = false := by simp; omega
  clear h1 h2 h3
  rw [HE.out]
  have DR : ∀ {w1 : World} {m : List UInt8} {e : Int} {cs : Array Value}, RrTo w g gr m e cs w1 → RrTo w g gr m e cs w1.drew := fun h => rrTo_dr h
  have HW0 := Lib.hid (rr_to h)
  clear h
  go_enter Tryz.func226, Tryz.ntmps226
  go_upto_region 1 with fail
  obtain ⟨d1, hwd⟩ : ∃ wd, ({ w with drawn := w.drawn + 1 } : World) = wd := ⟨_, rfl⟩
  have W1 : Hid (RrTo w g gr l 0 (rcs rz) d1) := by show RrTo w g gr l 0 (rcs rz) d1; rw [← hwd]; exact DR (HW0).out
  refine wp_region_still_tail 7 (by kernel_rfl) (by kernel_rfl) ?_
  simp only [List.take_succ_cons, List.take_zero, List.drop_succ_cons, List.drop_zero]
  rw [hwd]
  clear hwd
  repeat still_step
  refine wpStill_nil ?_
  go_wp2_with fail
  refine (rKind g gr 0 l 0 (rcs rz) #[.int .i64 (k : Int), .int .u64 0, .int .u8 0, .int .u8 0, .int .u8 0, .int .u64 0, .int .u64 0, .int .u64 0, .int .u8 0] _ _ W1.out.1 rfl (by rw [← HKK.out]; rfl)).mono ?_
  rintro E w1 ⟨rfl, hw1⟩
  have HW1 := Lib.hid (rrTo_trans W1.out hw1)
  clear hw1 W1
  have c1 : w1.cell? ⟨gr, 0, none⟩ = some (.int .i64 (k : Int)) := by rw [HW1.out.1.2.1.cell]; rfl
  go_wp2
  go_ret
  exact ⟨rfl, by have := HW1.out; simp only [fin_of] at this; rw [← HKK.out]; exact this⟩
set_option maxHeartbeats 1000000 in
theorem encR1 (g gr : Nat) (l : List UInt8) (w : World) (h : Rr w g gr l 0 (rcs rz)) (hk : (num 1 l).val = 1) :
    Calls Tryz.prog 226 #[.iface 345 (.agg #[.pointer (some ⟨g, 0, none⟩)]), .pointer (some ⟨gr, 0, none⟩)] w fun E w' => E = .returned (.bool (rdE l).known) ∧ RrTo w g gr (rdE l).rest (rdE l).err (rcs (rdE l).val) w' := by
  have HE : Hid (rdE l = ⟨true, fin (fin ((num 1 l).err) (num 8 (num 1 l).rest).err) (num 1 (num 8 (num 1 l).rest).rest).err, (num 1 (num 8 (num 1 l).rest).rest).rest, ⟨1, (num 8 (num 1 l).rest).val, (num 1 (num 8 (num 1 l).rest).rest).val, 0, 0, 0, 0, 0, 0⟩⟩) := by
    show _ = _
    unfold rdE
    simp only []
    rw [if_pos hk]
  have HKK := Lib.hid hk
  clear hk
  rw [HE.out]
  have DR : ∀ {w1 : World} {m : List UInt8} {e : Int} {cs : Array Value}, RrTo w g gr m e cs w1 → RrTo w g gr m e cs w1.drew := fun h => rrTo_dr h
  have HW0 := Lib.hid (rr_to h)
  clear h
  go_enter Tryz.func226, Tryz.ntmps226
  go_upto_region 1 with fail
  obtain ⟨d1, hwd⟩ : ∃ wd, ({ w with drawn := w.drawn + 1 } : World) = wd := ⟨_, rfl⟩
  have W1 : Hid (RrTo w g gr l 0 (rcs rz) d1) := by show RrTo w g gr l 0 (rcs rz) d1; rw [← hwd]; exact DR (HW0).out
  refine wp_region_still_tail 7 (by kernel_rfl) (by kernel_rfl) ?_
  simp only [List.take_succ_cons, List.take_zero, List.drop_succ_cons, List.drop_zero]
  rw [hwd]
  clear hwd
  repeat still_step
  refine wpStill_nil ?_
  go_wp2_with fail
  refine (rKind g gr 0 l 0 (rcs rz) #[.int .i64 1, .int .u64 0, .int .u8 0, .int .u8 0, .int .u8 0, .int .u64 0, .int .u64 0, .int .u64 0, .int .u8 0] _ _ W1.out.1 rfl (by rw [HKK.out]; rfl)).mono ?_
  rintro E w1 ⟨rfl, hw1⟩
  have HW1 := Lib.hid (rrTo_trans W1.out hw1)
  clear hw1 W1
  have c1 : w1.cell? ⟨gr, 0, none⟩ = some (.int .i64 1) := by rw [HW1.out.1.2.1.cell]; rfl
  go_upto_region 5 with fail
  obtain ⟨d2, hwd⟩ : ∃ wd, ({ w1 with drawn := w1.drawn + 1 } : World) = wd := ⟨_, rfl⟩
  have W2 : Hid (RrTo w g gr (num 1 l).rest (fin 0 (num 1 l).err) #[.int .i64 1, .int .u64 0, .int .u8 0, .int .u8 0, .int .u8 0, .int .u64 0, .int .u64 0, .int .u64 0, .int .u8 0] d2) := by show RrTo w g gr (num 1 l).rest (fin 0 (num 1 l).err) #[.int .i64 1, .int .u64 0, .int .u8 0, .int .u8 0, .int .u8 0, .int .u64 0, .int .u64 0, .int .u64 0, .int .u8 0] d2; rw [← hwd]; exact DR (HW1).out
  refine wp_region_still_tail 7 (by kernel_rfl) (by kernel_rfl) ?_
  simp only [List.take_succ_cons, List.take_zero, List.drop_succ_cons, List.drop_zero]
  rw [hwd]
  clear hwd
  repeat still_step
  refine wpStill_nil ?_
  go_wp2_with fail
  clear c1
  refine (rNumber g gr 1 (num 1 l).rest (fin 0 (num 1 l).err) #[.int .i64 1, .int .u64 0, .int .u8 0, .int .u8 0, .int .u8 0, .int .u64 0, .int .u64 0, .int .u64 0, .int .u8 0] #[.int .i64 1, .int .u64 ((num 8 (num 1 l).rest).val : Int), .int .u8 0, .int .u8 0, .int .u8 0, .int .u64 0, .int .u64 0, .int .u64 0, .int .u8 0] _ _ W2.out.1 rfl rfl).mono ?_
  rintro E w2 ⟨rfl, hw2⟩
  have HW2 := Lib.hid (rrTo_trans W2.out hw2)
  clear hw2 W2
  go_upto_region 6 with fail
  obtain ⟨d3, hwd⟩ : ∃ wd, ({ w2 with drawn := w2.drawn + 1 } : World) = wd := ⟨_, rfl⟩
  have W3 : Hid (RrTo w g gr (num 8 (num 1 l).rest).rest (fin (fin 0 (num 1 l).err) (num 8 (num 1 l).rest).err) #[.int .i64 1, .int .u64 ((num 8 (num 1 l).rest).val : Int), .int .u8 0, .int .u8 0, .int .u8 0, .int .u64 0, .int .u64 0, .int .u64 0, .int .u8 0] d3) := by show RrTo w g gr (num 8 (num 1 l).rest).rest (fin (fin 0 (num 1 l).err) (num 8 (num 1 l).rest).err) #[.int .i64 1, .int .u64 ((num 8 (num 1 l).rest).val : Int), .int .u8 0, .int .u8 0, .int .u8 0, .int .u64 0, .int .u64 0, .int .u64 0, .int .u8 0] d3; rw [← hwd]; exact DR (HW2).out
  refine wp_region_still_tail 7 (by kernel_rfl) (by kernel_rfl) ?_
  simp only [List.take_succ_cons, List.take_zero, List.drop_succ_cons, List.drop_zero]
  rw [hwd]
  clear hwd
  repeat still_step
  refine wpStill_nil ?_
  go_wp2_with fail
  refine (rInput g gr 2 (num 8 (num 1 l).rest).rest (fin (fin 0 (num 1 l).err) (num 8 (num 1 l).rest).err) #[.int .i64 1, .int .u64 ((num 8 (num 1 l).rest).val : Int), .int .u8 0, .int .u8 0, .int .u8 0, .int .u64 0, .int .u64 0, .int .u64 0, .int .u8 0] #[.int .i64 1, .int .u64 ((num 8 (num 1 l).rest).val : Int), .int .u8 ((num 1 (num 8 (num 1 l).rest).rest).val : Int), .int .u8 0, .int .u8 0, .int .u64 0, .int .u64 0, .int .u64 0, .int .u8 0] _ _ W3.out.1 rfl rfl).mono ?_
  rintro E w3 ⟨rfl, hw3⟩
  have HW3 := Lib.hid (rrTo_trans W3.out hw3)
  clear hw3 W3
  go_wp2
  go_ret
  exact ⟨rfl, by have := HW3.out; simp only [fin_of] at this; exact this⟩
set_option maxHeartbeats 1000000 in
theorem encR2 (g gr : Nat) (l : List UInt8) (w : World) (h : Rr w g gr l 0 (rcs rz)) (hk : (num 1 l).val = 2) :
    Calls Tryz.prog 226 #[.iface 345 (.agg #[.pointer (some ⟨g, 0, none⟩)]), .pointer (some ⟨gr, 0, none⟩)] w fun E w' => E = .returned (.bool (rdE l).known) ∧ RrTo w g gr (rdE l).rest (rdE l).err (rcs (rdE l).val) w' := by
  have HE : Hid (rdE l = ⟨true, fin (fin (fin ((num 1 l).err) (num 8 (num 1 l).rest).err) (num 1 (num 8 (num 1 l).rest).rest).err) (num 1 (num 1 (num 8 (num 1 l).rest).rest).rest).err, (num 1 (num 1 (num 8 (num 1 l).rest).rest).rest).rest, ⟨2, (num 8 (num 1 l).rest).val, 0, (num 1 (num 8 (num 1 l).rest).rest).val, (num 1 (num 1 (num 8 (num 1 l).rest).rest).rest).val, 0, 0, 0, 0⟩⟩) := by
    show _ = _
    unfold rdE
    simp only []
    rw [if_neg (by omega), if_pos hk]
  have HKK := Lib.hid hk
  clear hk
  rw [HE.out]
  have DR : ∀ {w1 : World} {m : List UInt8} {e : Int} {cs : Array Value}, RrTo w g gr m e cs w1 → RrTo w g gr m e cs w1.drew := fun h => rrTo_dr h
  have HW0 := Lib.hid (rr_to h)
  clear h
  go_enter Tryz.func226, Tryz.ntmps226
  go_upto_region 1 with fail
  obtain ⟨d1, hwd⟩ : ∃ wd, ({ w with drawn := w.drawn + 1 } : World) = wd := ⟨_, rfl⟩
  have W1 : Hid (RrTo w g gr l 0 (rcs rz) d1) := by show RrTo w g gr l 0 (rcs rz) d1; rw [← hwd]; exact DR (HW0).out
  refine wp_region_still_tail 7 (by kernel_rfl) (by kernel_rfl) ?_
  simp only [List.take_succ_cons, List.take_zero, List.drop_succ_cons, List.drop_zero]
  rw [hwd]
  clear hwd
  repeat still_step
  refine wpStill_nil ?_
  go_wp2_with fail
  refine (rKind g gr 0 l 0 (rcs rz) #[.int .i64 2, .int .u64 0, .int .u8 0, .int .u8 0, .int .u8 0, .int .u64 0, .int .u64 0, .int .u64 0, .int .u8 0] _ _ W1.out.1 rfl (by rw [HKK.out]; rfl)).mono ?_
  rintro E w1 ⟨rfl, hw1⟩
  have HW1 := Lib.hid (rrTo_trans W1.out hw1)
  clear hw1 W1
  have c1 : w1.cell? ⟨gr, 0, none⟩ = some (.int .i64 2) := by rw [HW1.out.1.2.1.cell]; rfl
  go_upto_region 8 with fail
  obtain ⟨d2, hwd⟩ : ∃ wd, ({ w1 with drawn := w1.drawn + 1 } : World) = wd := ⟨_, rfl⟩
  have W2 : Hid (RrTo w g gr (num 1 l).rest (fin 0 (num 1 l).err) #[.int .i64 2, .int .u64 0, .int .u8 0, .int .u8 0, .int .u8 0, .int .u64 0, .int .u64 0, .int .u64 0, .int .u8 0] d2) := by show RrTo w g gr (num 1 l).rest (fin 0 (num 1 l).err) #[.int .i64 2, .int .u64 0, .int .u8 0, .int .u8 0, .int .u8 0, .int .u64 0, .int .u64 0, .int .u64 0, .int .u8 0] d2; rw [← hwd]; exact DR (HW1).out
  refine wp_region_still_tail 7 (by kernel_rfl) (by kernel_rfl) ?_
  simp only [List.take_succ_cons, List.take_zero, List.drop_succ_cons, List.drop_zero]
  rw [hwd]
  clear hwd
  repeat still_step
  refine wpStill_nil ?_
  go_wp2_with fail
  clear c1
  refine (rNumber g gr 1 (num 1 l).rest (fin 0 (num 1 l).err) #[.int .i64 2, .int .u64 0, .int .u8 0, .int .u8 0, .int .u8 0, .int .u64 0, .int .u64 0, .int .u64 0, .int .u8 0] #[.int .i64 2, .int .u64 ((num 8 (num 1 l).rest).val : Int), .int .u8 0, .int .u8 0, .int .u8 0, .int .u64 0, .int .u64 0, .int .u64 0, .int .u8 0] _ _ W2.out.1 rfl rfl).mono ?_
  rintro E w2 ⟨rfl, hw2⟩
  have HW2 := Lib.hid (rrTo_trans W2.out hw2)
  clear hw2 W2
  go_upto_region 9 with fail
  obtain ⟨d3, hwd⟩ : ∃ wd, ({ w2 with drawn := w2.drawn + 1 } : World) = wd := ⟨_, rfl⟩
  have W3 : Hid (RrTo w g gr (num 8 (num 1 l).rest).rest (fin (fin 0 (num 1 l).err) (num 8 (num 1 l).rest).err) #[.int .i64 2, .int .u64 ((num 8 (num 1 l).rest).val : Int), .int .u8 0, .int .u8 0, .int .u8 0, .int .u64 0, .int .u64 0, .int .u64 0, .int .u8 0] d3) := by show RrTo w g gr (num 8 (num 1 l).rest).rest (fin (fin 0 (num 1 l).err) (num 8 (num 1 l).rest).err) #[.int .i64 2, .int .u64 ((num 8 (num 1 l).rest).val : Int), .int .u8 0, .int .u8 0, .int .u8 0, .int .u64 0, .int .u64 0, .int .u64 0, .int .u8 0] d3; rw [← hwd]; exact DR (HW2).out
  refine wp_region_still_tail 8 (by kernel_rfl) (by kernel_rfl) ?_
  simp only [List.take_succ_cons, List.take_zero, List.drop_succ_cons, List.drop_zero]
  rw [hwd]
  clear hwd
  repeat still_step
  refine wpStill_nil ?_
  go_wp2_with fail
  refine (rInput g gr 3 (num 8 (num 1 l).rest).rest (fin (fin 0 (num 1 l).err) (num 8 (num 1 l).rest).err) #[.int .i64 2, .int .u64 ((num 8 (num 1 l).rest).val : Int), .int .u8 0, .int .u8 0, .int .u8 0, .int .u64 0, .int .u64 0, .int .u64 0, .int .u8 0] #[.int .i64 2, .int .u64 ((num 8 (num 1 l).rest).val : Int), .int .u8 0, .int .u8 ((num 1 (num 8 (num 1 l).rest).rest).val : Int), .int .u8 0, .int .u64 0, .int .u64 0, .int .u64 0, .int .u8 0] _ _ W3.out.1 rfl rfl).mono ?_
  rintro E w3 ⟨rfl, hw3⟩
  have HW3 := Lib.hid (rrTo_trans W3.out hw3)
  clear hw3 W3
  go_upto_region 10 with fail
  obtain ⟨d4, hwd⟩ : ∃ wd, ({ w3 with drawn := w3.drawn + 1 } : World) = wd := ⟨_, rfl⟩
  have W4 : Hid (RrTo w g gr (num 1 (num 8 (num 1 l).rest).rest).rest (fin (fin (fin 0 (num 1 l).err) (num 8 (num 1 l).rest).err) (num 1 (num 8 (num 1 l).rest).rest).err) #[.int .i64 2, .int .u64 ((num 8 (num 1 l).rest).val : Int), .int .u8 0, .int .u8 ((num 1 (num 8 (num 1 l).rest).rest).val : Int), .int .u8 0, .int .u64 0, .int .u64 0, .int .u64 0, .int .u8 0] d4) := by show RrTo w g gr (num 1 (num 8 (num 1 l).rest).rest).rest (fin (fin (fin 0 (num 1 l).err) (num 8 (num 1 l).rest).err) (num 1 (num 8 (num 1 l).rest).rest).err) #[.int .i64 2, .int .u64 ((num 8 (num 1 l).rest).val : Int), .int .u8 0, .int .u8 ((num 1 (num 8 (num 1 l).rest).rest).val : Int), .int .u8 0, .int .u64 0, .int .u64 0, .int .u64 0, .int .u8 0] d4; rw [← hwd]; exact DR (HW3).out
  refine wp_region_still_tail 8 (by kernel_rfl) (by kernel_rfl) ?_
  simp only [List.take_succ_cons, List.take_zero, List.drop_succ_cons, List.drop_zero]
  rw [hwd]
  clear hwd
  repeat still_step
  refine wpStill_nil ?_
  go_wp2_with fail
  refine (rInput g gr 4 (num 1 (num 8 (num 1 l).rest).rest).rest (fin (fin (fin 0 (num 1 l).err) (num 8 (num 1 l).rest).err) (num 1 (num 8 (num 1 l).rest).rest).err) #[.int .i64 2, .int .u64 ((num 8 (num 1 l).rest).val : Int), .int .u8 0, .int .u8 ((num 1 (num 8 (num 1 l).rest).rest).val : Int), .int .u8 0, .int .u64 0, .int .u64 0, .int .u64 0, .int .u8 0] #[.int .i64 2, .int .u64 ((num 8 (num 1 l).rest).val : Int), .int .u8 0, .int .u8 ((num 1 (num 8 (num 1 l).rest).rest).val : Int), .int .u8 ((num 1 (num 1 (num 8 (num 1 l).rest).rest).rest).val : Int), .int .u64 0, .int .u64 0, .int .u64 0, .int .u8 0] _ _ W4.out.1 rfl rfl).mono ?_
  rintro E w4 ⟨rfl, hw4⟩
  have HW4 := Lib.hid (rrTo_trans W4.out hw4)
  clear hw4 W4
  go_wp2
  go_ret
  exact ⟨rfl, by have := HW4.out; simp only [fin_of] at this; exact this⟩
set_option maxHeartbeats 1000000 in
theorem encR3 (g gr : Nat) (l : List UInt8) (w : World) (h : Rr w g gr l 0 (rcs rz)) (hk : (num 1 l).val = 3) :
    Calls Tryz.prog 226 #[.iface 345 (.agg #[.pointer (some ⟨g, 0, none⟩)]), .pointer (some ⟨gr, 0, none⟩)] w fun E w' => E = .returned (.bool (rdE l).known) ∧ RrTo w g gr (rdE l).rest (rdE l).err (rcs (rdE l).val) w' := by
  have HE : Hid (rdE l = ⟨true, fin (fin (fin (fin ((num 1 l).err) (num 8 (num 1 l).rest).err) (num 8 (num 8 (num 1 l).rest).rest).err) (num 8 (num 8 (num 8 (num 1 l).rest).rest).rest).err) (num 1 (num 8 (num 8 (num 8 (num 1 l).rest).rest).rest).rest).err, (num 1 (num 8 (num 8 (num 8 (num 1 l).rest).rest).rest).rest).rest, ⟨3, 0, 0, 0, 0, (num 8 (num 1 l).rest).val, (num 8 (num 8 (num 1 l).rest).rest).val, (num 8 (num 8 (num 8 (num 1 l).rest).rest).rest).val, (num 1 (num 8 (num 8 (num 8 (num 1 l).rest).rest).rest).rest).val⟩⟩) := by
    show _ = _
    unfold rdE
    simp only []
    rw [if_neg (by omega), if_neg (by omega), if_pos hk]
  have HKK := Lib.hid hk
  clear hk
  rw [HE.out]
  have DR : ∀ {w1 : World} {m : List UInt8} {e : Int} {cs : Array Value}, RrTo w g gr m e cs w1 → RrTo w g gr m e cs w1.drew := fun h => rrTo_dr h
  have HW0 := Lib.hid (rr_to h)
  clear h
  go_enter Tryz.func226, Tryz.ntmps226
  go_upto_region 1 with fail
  obtain ⟨d1, hwd⟩ : ∃ wd, ({ w with drawn := w.drawn + 1 } : World) = wd := ⟨_, rfl⟩
  have W1 : Hid (RrTo w g gr l 0 (rcs rz) d1) := by show RrTo w g gr l 0 (rcs rz) d1; rw [← hwd]; exact DR (HW0).out
  refine wp_region_still_tail 7 (by kernel_rfl) (by kernel_rfl) ?_
  simp only [List.take_succ_cons, List.take_zero, List.drop_succ_cons, List.drop_zero]
  rw [hwd]
  clear hwd
  repeat still_step
  refine wpStill_nil ?_
  go_wp2_with fail
  refine (rKind g gr 0 l 0 (rcs rz) #[.int .i64 3, .int .u64 0, .int .u8 0, .int .u8 0, .int .u8 0, .int .u64 0, .int .u64 0, .int .u64 0, .int .u8 0] _ _ W1.out.1 rfl (by rw [HKK.out]; rfl)).mono ?_
  rintro E w1 ⟨rfl, hw1⟩
  have HW1 := Lib.hid (rrTo_trans W1.out hw1)
  clear hw1 W1
  have c1 : w1.cell? ⟨gr, 0, none⟩ = some (.int .i64 3) := by rw [HW1.out.1.2.1.cell]; rfl
  go_upto_region 12 with fail
  obtain ⟨d2, hwd⟩ : ∃ wd, ({ w1 with drawn := w1.drawn + 1 } : World) = wd := ⟨_, rfl⟩
  have W2 : Hid (RrTo w g gr (num 1 l).rest (fin 0 (num 1 l).err) #[.int .i64 3, .int .u64 0, .int .u8 0, .int .u8 0, .int .u8 0, .int .u64 0, .int .u64 0, .int .u64 0, .int .u8 0] d2) := by show RrTo w g gr (num 1 l).rest (fin 0 (num 1 l).err) #[.int .i64 3, .int .u64 0, .int .u8 0, .int .u8 0, .int .u8 0, .int .u64 0, .int .u64 0, .int .u64 0, .int .u8 0] d2; rw [← hwd]; exact DR (HW1).out
  refine wp_region_still_tail 7 (by kernel_rfl) (by kernel_rfl) ?_
  simp only [List.take_succ_cons, List.take_zero, List.drop_succ_cons, List.drop_zero]
  rw [hwd]
  clear hwd
  repeat still_step
  refine wpStill_nil ?_
  go_wp2_with fail
  clear c1
  refine (rNumber g gr 5 (num 1 l).rest (fin 0 (num 1 l).err) #[.int .i64 3, .int .u64 0, .int .u8 0, .int .u8 0, .int .u8 0, .int .u64 0, .int .u64 0, .int .u64 0, .int .u8 0] #[.int .i64 3, .int .u64 0, .int .u8 0, .int .u8 0, .int .u8 0, .int .u64 ((num 8 (num 1 l).rest).val : Int), .int .u64 0, .int .u64 0, .int .u8 0] _ _ W2.out.1 rfl rfl).mono ?_
  rintro E w2 ⟨rfl, hw2⟩
  have HW2 := Lib.hid (rrTo_trans W2.out hw2)
  clear hw2 W2
  go_upto_region 13 with fail
  obtain ⟨d3, hwd⟩ : ∃ wd, ({ w2 with drawn := w2.drawn + 1 } : World) = wd := ⟨_, rfl⟩
  have W3 : Hid (RrTo w g gr (num 8 (num 1 l).rest).rest (fin (fin 0 (num 1 l).err) (num 8 (num 1 l).rest).err) #[.int .i64 3, .int .u64 0, .int .u8 0, .int .u8 0, .int .u8 0, .int .u64 ((num 8 (num 1 l).rest).val : Int), .int .u64 0, .int .u64 0, .int .u8 0] d3) := by show RrTo w g gr (num 8 (num 1 l).rest).rest (fin (fin 0 (num 1 l).err) (num 8 (num 1 l).rest).err) #[.int .i64 3, .int .u64 0, .int .u8 0, .int .u8 0, .int .u8 0, .int .u64 ((num 8 (num 1 l).rest).val : Int), .int .u64 0, .int .u64 0, .int .u8 0] d3; rw [← hwd]; exact DR (HW2).out
  refine wp_region_still_tail 7 (by kernel_rfl) (by kernel_rfl) ?_
  simp only [List.take_succ_cons, List.take_zero, List.drop_succ_cons, List.drop_zero]
  rw [hwd]
  clear hwd
  repeat still_step
  refine wpStill_nil ?_
  go_wp2_with fail
  refine (rNumber g gr 6 (num 8 (num 1 l).rest).rest (fin (fin 0 (num 1 l).err) (num 8 (num 1 l).rest).err) #[.int .i64 3, .int .u64 0, .int .u8 0, .int .u8 0, .int .u8 0, .int .u64 ((num 8 (num 1 l).rest).val : Int), .int .u64 0, .int .u64 0, .int .u8 0] #[.int .i64 3, .int .u64 0, .int .u8 0, .int .u8 0, .int .u8 0, .int .u64 ((num 8 (num 1 l).rest).val : Int), .int .u64 ((num 8 (num 8 (num 1 l).rest).rest).val : Int), .int .u64 0, .int .u8 0] _ _ W3.out.1 rfl rfl).mono ?_
  rintro E w3 ⟨rfl, hw3⟩
  have HW3 := Lib.hid (rrTo_trans W3.out hw3)
  clear hw3 W3
  go_upto_region 14 with fail
  obtain ⟨d4, hwd⟩ : ∃ wd, ({ w3 with drawn := w3.drawn + 1 } : World) = wd := ⟨_, rfl⟩
  have W4 : Hid (RrTo w g gr (num 8 (num 8 (num 1 l).rest).rest).rest (fin (fin (fin 0 (num 1 l).err) (num 8 (num 1 l).rest).err) (num 8 (num 8 (num 1 l).rest).rest).err) #[.int .i64 3, .int .u64 0, .int .u8 0, .int .u8 0, .int .u8 0, .int .u64 ((num 8 (num 1 l).rest).val : Int), .int .u64 ((num 8 (num 8 (num 1 l).rest).rest).val : Int), .int .u64 0, .int .u8 0] d4) := by show RrTo w g gr (num 8 (num 8 (num 1 l).rest).rest).rest (fin (fin (fin 0 (num 1 l).err) (num 8 (num 1 l).rest).err) (num 8 (num 8 (num 1 l).rest).rest).err) #[.int .i64 3, .int .u64 0, .int .u8 0, .int .u8 0, .int .u8 0, .int .u64 ((num 8 (num 1 l).rest).val : Int), .int .u64 ((num 8 (num 8 (num 1 l).rest).rest).val : Int), .int .u64 0, .int .u8 0] d4; rw [← hwd]; exact DR (HW3).out
  refine wp_region_still_tail 7 (by kernel_rfl) (by kernel_rfl) ?_
  simp only [List.take_succ_cons, List.take_zero, List.drop_succ_cons, List.drop_zero]
  rw [hwd]
  clear hwd
  repeat still_step
  refine wpStill_nil ?_
  go_wp2_with fail
  refine (rNumber g gr 7 (num 8 (num 8 (num 1 l).rest).rest).rest (fin (fin (fin 0 (num 1 l).err) (num 8 (num 1 l).rest).err) (num 8 (num 8 (num 1 l).rest).rest).err) #[.int .i64 3, .int .u64 0, .int .u8 0, .int .u8 0, .int .u8 0, .int .u64 ((num 8 (num 1 l).rest).val : Int), .int .u64 ((num 8 (num 8 (num 1 l).rest).rest).val : Int), .int .u64 0, .int .u8 0] #[.int .i64 3, .int .u64 0, .int .u8 0, .int .u8 0, .int .u8 0, .int .u64 ((num 8 (num 1 l).rest).val : Int), .int .u64 ((num 8 (num 8 (num 1 l).rest).rest).val : Int), .int .u64 ((num 8 (num 8 (num 8 (num 1 l).rest).rest).rest).val : Int), .int .u8 0] _ _ W4.out.1 rfl rfl).mono ?_
  rintro E w4 ⟨rfl, hw4⟩
  have HW4 := Lib.hid (rrTo_trans W4.out hw4)
  clear hw4 W4
  go_upto_region 15 with fail
  obtain ⟨d5, hwd⟩ : ∃ wd, ({ w4 with drawn := w4.drawn + 1 } : World) = wd := ⟨_, rfl⟩
  have W5 : Hid (RrTo w g gr (num 8 (num 8 (num 8 (num 1 l).rest).rest).rest).rest (fin (fin (fin (fin 0 (num 1 l).err) (num 8 (num 1 l).rest).err) (num 8 (num 8 (num 1 l).rest).rest).err) (num 8 (num 8 (num 8 (num 1 l).rest).rest).rest).err) #[.int .i64 3, .int .u64 0, .int .u8 0, .int .u8 0, .int .u8 0, .int .u64 ((num 8 (num 1 l).rest).val : Int), .int .u64 ((num 8 (num 8 (num 1 l).rest).rest).val : Int), .int .u64 ((num 8 (num 8 (num 8 (num 1 l).rest).rest).rest).val : Int), .int .u8 0] d5) := by show RrTo w g gr (num 8 (num 8 (num 8 (num 1 l).rest).rest).rest).rest (fin (fin (fin (fin 0 (num 1 l).err) (num 8 (num 1 l).rest).err) (num 8 (num 8 (num 1 l).rest).rest).err) (num 8 (num 8 (num 8 (num 1 l).rest).rest).rest).err) #[.int .i64 3, .int .u64 0, .int .u8 0, .int .u8 0, .int .u8 0, .int .u64 ((num 8 (num 1 l).rest).val : Int), .int .u64 ((num 8 (num 8 (num 1 l).rest).rest).val : Int), .int .u64 ((num 8 (num 8 (num 8 (num 1 l).rest).rest).rest).val : Int), .int .u8 0] d5; rw [← hwd]; exact DR (HW4).out
  refine wp_region_still_tail 7 (by kernel_rfl) (by kernel_rfl) ?_
  simp only [List.take_succ_cons, List.take_zero, List.drop_succ_cons, List.drop_zero]
  rw [hwd]
  clear hwd
  repeat still_step
  refine wpStill_nil ?_
  go_wp2_with fail
  refine (rPlayer g gr 8 (num 8 (num 8 (num 8 (num 1 l).rest).rest).rest).rest (fin (fin (fin (fin 0 (num 1 l).err) (num 8 (num 1 l).rest).err) (num 8 (num 8 (num 1 l).rest).rest).err) (num 8 (num 8 (num 8 (num 1 l).rest).rest).rest).err) #[.int .i64 3, .int .u64 0, .int .u8 0, .int .u8 0, .int .u8 0, .int .u64 ((num 8 (num 1 l).rest).val : Int), .int .u64 ((num 8 (num 8 (num 1 l).rest).rest).val : Int), .int .u64 ((num 8 (num 8 (num 8 (num 1 l).rest).rest).rest).val : Int), .int .u8 0] #[.int .i64 3, .int .u64 0, .int .u8 0, .int .u8 0, .int .u8 0, .int .u64 ((num 8 (num 1 l).rest).val : Int), .int .u64 ((num 8 (num 8 (num 1 l).rest).rest).val : Int), .int .u64 ((num 8 (num 8 (num 8 (num 1 l).rest).rest).rest).val : Int), .int .u8 ((num 1 (num 8 (num 8 (num 8 (num 1 l).rest).rest).rest).rest).val : Int)] _ _ W5.out.1 rfl rfl).mono ?_
  rintro E w5 ⟨rfl, hw5⟩
  have HW5 := Lib.hid (rrTo_trans W5.out hw5)
  clear hw5 W5
  go_wp2
  go_ret
  exact ⟨rfl, by have := HW5.out; simp only [fin_of] at this; exact this⟩
theorem encR_c (g gr : Nat) (l : List UInt8) (w : World) (h : Rr w g gr l 0 (rcs rz)) :
    Calls Tryz.prog 226 #[.iface 345 (.agg #[.pointer (some ⟨g, 0, none⟩)]), .pointer (some ⟨gr, 0, none⟩)] w fun E w' => E = .returned (.bool (rdE l).known) ∧ RrTo w g gr (rdE l).rest (rdE l).err (rcs (rdE l).val) w' := by
  by_cases h1 : (num 1 l).val = 1
  · exact encR1 g gr l w h h1
  · by_cases h2 : (num 1 l).val = 2
    · exact encR2 g gr l w h h2
    · by_cases h3 : (num 1 l).val = 3
      · exact encR3 g gr l w h h3
      · exact encR0 g gr l w h h1 h2 h3
end Go.Proofs.YtgeaacabpnepmaaGreatDoor
/- A record put and taken, by the program: one contract each. Conditions: a text to be taken is of 2^40 bytes at most. -/
namespace Go.Proofs.YtgeaacabpnepmaaGreatDoor
open Go.RowKit
set_option linter.unusedVariables false
set_option linter.unusedSimpArgs false
set_option maxRecDepth 20000

theorem ty_rec : TyA 114 9 := tya_struct Tryz.underlying114 (by kernel_rfl)
theorem ty_rdr : TyA 345 1 := tya_struct Tryz.underlying345 (by kernel_rfl)
theorem ty_prd : TyO 317 := tyo_of Tryz.underlying317 rfl (by kernel_rfl)
theorem ld_rec (v : Value) : Instr.loadAt 114 v = ldT 114 v := rfl
theorem ld_rdr (v : Value) : Instr.loadAt 345 v = ldT 345 v := rfl
theorem ld_prd (v : Value) : Instr.loadAt 317 v = ldT 317 v := rfl
theorem st_rec (p v : Value) : Instr.storeAt 114 p v = stT 114 p v := rfl
theorem st_rdr (p v : Value) : Instr.storeAt 345 p v = stT 345 p v := rfl

theorem legal_c (i : Nat) (w : World) : Calls Tryz.prog 56 #[.int .u8 i] w fun E w' => E = .returned (.bool (decide (i < 64))) ∧ w = w' := by
  go_enter Tryz.func56, Tryz.ntmps56
  go_wp2
  go_ret
  exact ⟨congrArg (fun x => Ending.returned (Value.bool x)) (by simp only [decide_eq_decide]; omega : decide ((i : Int) < 64) = decide (i < 64)), rfl⟩

attribute [local go_sem ↓] ld_rec ld_rdr ld_prd ld_input ld_u8 st_rec st_rdr
theorem low_c (r : Rc) (w : World) (hf : r.fit) :
    Calls Tryz.prog 259 #[.agg (rcs r)] w fun E w' => E = .returned (.bool (lowB r)) ∧ Below w.heap.size w w' := by
  have h8 := hf.y
  have H0 := Loc.one w 114 (rcs r)
  have l2 := H0.ldO ty_input 0 rfl 2 (v := .int .u8 (r.o : Int)) rfl
  have l3 := H0.ldO ty_input 0 rfl 3 (v := .int .u8 (r.p : Int)) rfl
  have l4 := H0.ldO ty_input 0 rfl 4 (v := .int .u8 (r.q : Int)) rfl
  have l8 := H0.ldO ty_u8 0 rfl 8 (v := .int .u8 (r.y : Int)) rfl
  have C1 := fun w => legal_c r.o w
  have C2 := fun w => legal_c r.p w
  have C3 := fun w => legal_c r.q w
  have hy : decide ((r.y : Int) < 2) = decide (r.y < 2) := by simp only [decide_eq_decide]; omega
  unfold lowB
  generalize decide (r.o < 64) = b1 at *
  generalize decide (r.p < 64) = b2 at *
  generalize decide (r.q < 64) = b3 at *
  obtain ⟨b4, hy4⟩ : ∃ b, b = decide (r.y < 2) := ⟨_, rfl⟩
  rw [← hy4] at hy ⊢
  have hyn := hy4.symm
  clear hy4
  have HB := Lib.hid H0.be
  clear H0
  go_enter Tryz.func259, Tryz.ntmps259
  go_upto_region 1 with fail
  generalize w.alloc (.cells (rcs r) 114) = wa at *
  have K1 := Lib.hid (C1 wa)
  have K2 := Lib.hid (C2 wa)
  have K3 := Lib.hid (C3 wa)
  clear C1 C2 C3
  go_wp2_with fail
  refine K1.out.mono ?_
  rintro E w1 ⟨rfl, rfl⟩
  cases b1
  · go_wp2
    go_ret
    exact ⟨rfl, HB.out⟩
  · go_wp2_with fail
    refine K2.out.mono ?_
    rintro E w1 ⟨rfl, rfl⟩
    cases b2
    · go_wp2
      go_ret
      exact ⟨rfl, HB.out⟩
    · go_wp2_with fail
      refine K3.out.mono ?_
      rintro E w1 ⟨rfl, rfl⟩
      cases b3
      · go_wp2
        go_ret
        exact ⟨rfl, HB.out⟩
      · cases b4
        · go_wp2
          go_ret
          exact ⟨rfl, HB.out⟩
        · go_wp2
          go_ret
          exact ⟨rfl, HB.out⟩

theorem pair_in (a b c d : Int) (w : World) : (Op.equalIn 9999 40 (.agg #[.int .u8 a, .int .u8 b]) (.agg #[.int .u8 c, .int .u8 d])).run Tryz.prog w = .ok ((a == c) && (b == d)) w := by
  have h1 : (Tryz.prog.info? 38).map (·.size) = some 1 := by kernel_rfl
  obtain ⟨i, hi, hs⟩ := Option.map_eq_some_iff.1 h1
  rw [run_equalIn_array w 9998 _ _ Tryz.underlying40 hi, show Tryz.prog.cellsOf 38 = 1 by kernel_rfl]
  simp only [show List.range 2 = [0, 1] from rfl, Op.eqItems]
  cases h0 : (a == c) <;> cases h1 : (b == d) <;> simp [go_sem, h0, h1]
theorem re_eql (a b : Rc) (T : TypeId) (hT : T = 114 ∨ T = 170) (w : World) : (binOp .eql T (.agg (rcs a)) (.agg (rcs b))).run Tryz.prog w = .ok (.bool (reB a b)) w := by
  rcases hT with rfl | rfl <;>
  · rw [run_eql_struct]
    unfold reB rcs
    cases h0 : a.k == b.k
    · simp [go_sem, pair_in, h0]
    cases h1 : (a.f : Int) == (b.f : Int)
    · simp [go_sem, pair_in, h0, h1]
    cases h2 : (a.o : Int) == (b.o : Int)
    · simp [go_sem, pair_in, h0, h1, h2]
    cases h3 : (a.p : Int) == (b.p : Int)
    · simp [go_sem, pair_in, h0, h1, h2, h3]
    cases h4 : (a.q : Int) == (b.q : Int)
    · simp [go_sem, pair_in, h0, h1, h2, h3, h4]
    cases h5 : (a.s : Int) == (b.s : Int)
    · simp [go_sem, pair_in, h0, h1, h2, h3, h4, h5]
    cases h6 : (a.i : Int) == (b.i : Int)
    · simp [go_sem, pair_in, h0, h1, h2, h3, h4, h5, h6]
    cases h7 : (a.e : Int) == (b.e : Int)
    · simp [go_sem, pair_in, h0, h1, h2, h3, h4, h5, h6, h7]
    cases h8 : (a.y : Int) == (b.y : Int)
    · simp [go_sem, pair_in, h0, h1, h2, h3, h4, h5, h6, h7, h8]
    · simp [go_sem, pair_in, h0, h1, h2, h3, h4, h5, h6, h7, h8]
theorem re_neq (a b : Rc) (w : World) : (binOp .neq 114 (.agg (rcs a)) (.agg (rcs b))).run Tryz.prog w = .ok (.bool (!reB a b)) w := by
  rw [run_neq_struct]
  have h := re_eql a b _ (.inl rfl) w
  rw [run_eql_struct] at h
  revert h
  cases (Op.equalIn 10000 114 (.agg (rcs a)) (.agg (rcs b))).run Tryz.prog w with
  | ok x w1 => intro h; simp at h ⊢; exact ⟨by rw [h.1], h.2⟩
  | _ => intro h; simp at h
end Go.Proofs.YtgeaacabpnepmaaGreatDoor
/- A record taken, and put, by the program: one contract each. Conditions: a text to be taken is of 2^40 bytes at most. -/
namespace Go.Proofs.YtgeaacabpnepmaaGreatDoor
open Go.RowKit
set_option linter.unusedVariables false
set_option linter.unusedSimpArgs false
set_option maxRecDepth 20000

theorem Loc.kept {B : Nat} {w0 w w' : World} {L L' : List (Nat × TypeId × Array Value)} {S : Nat → Prop} (h : Loc B w0 w L) (hk : Kept S w w') (hB : ∀ k, k < B → S k) (hs : L'.Sublist L) (hS : ∀ e ∈ L', S e.1) : Loc B w0 w' L' :=
  ⟨h.hb, h.be.trans (kept_below (hk.less hB)), fun e he => h.ge e (hs.subset he), (hs.map Prod.fst).nodup h.nd, fun e he => (hk.block e.1 (hS e he)).trans (h.cs e (hs.subset he))⟩
theorem shut_rec {W : World} {g : Nat} {cs : Array Value} {T : TypeId} (tmps : Array Value) (e : Int) (fn : Func) (hr : fn.results = #[.cell 2 T, .tmp 3]) (ty : TyA T 9) (h : Cells W g T cs) (hs : cs.size = 9) (h2 : tmps.getD 2 undef = .pointer (some ⟨g, 0, none⟩)) (h3 : tmps.getD 3 undef = .int .i64 e) :
    (results fn tmps).run Tryz.prog W = .ok (.tuple #[.agg cs, .int .i64 e]) W := by
  have hl := run_ldA ty h 0 (by omega)
  have he : ((cs.toList.drop 0).take 9).toArray = cs := by simp [List.take_of_length_le, hs]
  rw [he] at hl
  have h2' : tmps[2]?.getD undef = .pointer (some ⟨g, 0, none⟩) := by simpa using h2
  have h3' : tmps[3]?.getD undef = .int .i64 e := by simpa using h3
  have hl' : (loadVar T ⟨g, 0, none⟩).run Tryz.prog W = .ok (.agg cs) W := by simpa [ldT, Instr.loadAt, Instr.sureAddr] using hl
  simp [results, hr, h2', h3', asAddr, hl']
def tkG (x : Rg) : Int × Rc := if x.err = 0 then (if x.known = true ∧ x.rest = [] ∧ lowB x.val = true then (0, x.val) else (4, rz)) else (x.err, rz)
theorem two_le {B : Nat} {w0 w : World} {x y : Nat × TypeId × Array Value} (h : Loc B w0 w [x, y]) (hy : y.1 = B + 1) : B + 1 < w.heap.size := by have := h.low (e := y) (by simp); omega
attribute [local go_sem ↓] ld_rec ld_rdr ld_prd st_rec st_rdr
set_option maxHeartbeats 1000000 in
theorem take_q (l : List UInt8) (w : World) (hl : l.length ≤ 1099511627776) (Q : Ending → World → Prop) (HQ : Hid (∀ w', Below w.heap.size w w' → Q (.returned (.tuple #[.agg (rcs (tkG (rdE l)).2), .int .i64 (tkG (rdE l)).1])) w')) :
    Calls Tryz.prog 227 #[.string (str l)] w Q := by
  have HE := fun (g gr : Nat) (w : World) (h : Rr w g gr l 0 (rcs rz)) => encR_c g gr l w h
  have HF := rdE_fit l
  obtain ⟨X, hX⟩ : ∃ X, X = rdE l := ⟨_, rfl⟩
  rw [← hX] at HE HQ HF
  clear hX
  obtain ⟨K, e, R, V⟩ := X
  have HF := Lib.hid HF
  have HEE := Lib.hid HE
  clear HE
  have H0 := Loc.two w 114 114 (#[.int .i64 0, .int .u64 0, .int .u8 0, .int .u8 0, .int .u8 0, .int .u64 0, .int .u64 0, .int .u64 0, .int .u8 0]) (#[.int .i64 0, .int .u64 0, .int .u8 0, .int .u8 0, .int .u8 0, .int .u64 0, .int .u64 0, .int .u64 0, .int .u8 0])
  have HLL := Lib.hid hl
  go_enter Tryz.func227, Tryz.ntmps227
  go_upto_region 2 with fail
  generalize (w.alloc (.cells #[.int .i64 0, .int .u64 0, .int .u8 0, .int .u8 0, .int .u8 0, .int .u64 0, .int .u64 0, .int .u64 0, .int .u8 0] 114)).alloc (.cells #[.int .i64 0, .int .u64 0, .int .u8 0, .int .u8 0, .int .u8 0, .int .u64 0, .int .u64 0, .int .u64 0, .int .u8 0] 114) = wa at *
  have HS := Lib.hid (two_le H0 rfl)
  have H0 := Lib.hid H0
  go_wp2_with fail
  refine (rdNew l _ HLL.out).mono ?_
  rintro E w1 ⟨rfl, hr1, hg1, -⟩
  obtain ⟨gd, hgd⟩ : ∃ gd, gd = wa.heap.size := ⟨_, rfl⟩
  rw [← hgd] at hr1 HS ⊢
  clear hgd
  have R1 := Lib.hid hr1
  have H1 := H0.out.grown hg1
  clear hr1 hg1
  obtain ⟨g5, w2, z2, s2, H2, q2⟩ := H1.newA ty_rdr #[.pointer none] #[.pointer (some ⟨gd, 0, none⟩)] rfl rfl rfl
  replace H2 : Loc w.heap.size w w2 [(w.heap.size, 114, rcs rz), (w.heap.size + 1, 114, rcs rz), (g5, 345, #[.pointer (some ⟨gd, 0, none⟩)])] := H2
  have R2 := Lib.hid (rd_on R1.out q2)
  have l2 := H2.ldA ty_rdr 2 rfl 0 (vs := #[.pointer (some ⟨gd, 0, none⟩)]) rfl (Nat.le_of_ble_eq_true rfl)
  have N5 := Lib.hid (show gd < g5 by rw [← z2]; exact R1.out.1.lt)
  have HG := Lib.hid (H2.low (e := (g5, 345, #[.pointer (some ⟨gd, 0, none⟩)])) (by simp))
  have H2 := Lib.hid H2
  clear H1
  go_wp2_with fail
  clear s2 z2 l2
  refine (HEE.out gd (w.heap.size + 1) w2 ⟨R2.out, H2.out.get 1 rfl, by have := HS.out; omega⟩).mono ?_
  rintro E w3 ⟨rfl, hr3⟩
  obtain ⟨⟨rd3, rc3, -⟩, k3⟩ := hr3
  have RD3 := Lib.hid rd3
  have RC3 := Lib.hid rc3
  have H3 : Loc w.heap.size w w3 [(w.heap.size, 114, rcs rz), (g5, 345, #[.pointer (some ⟨gd, 0, none⟩)])] :=
    H2.out.kept k3 (fun k hk => ⟨by have := HS.out; have := N5.out; have := HG.out; (try dsimp only at *); omega, by have := HS.out; omega, by omega⟩) (.cons_cons _ (.cons _ (.cons_cons _ .slnil))) (fun x hx => by
      have a1 := HS.out
      have a2 := N5.out
      have a3 := HG.out
      simp only [List.mem_cons, List.not_mem_nil, or_false] at hx
      rcases hx with rfl | rfl <;> exact ⟨by (try dsimp only at *); omega, by (try dsimp only at *); omega, by (try dsimp only at *); omega⟩)
  clear rd3 rc3 k3 HG N5 HS R1 R2 H2 H0 q2 HEE
  have l3 := H3.ldO ty_prd 1 rfl 0 (v := .pointer (some ⟨gd, 0, none⟩)) rfl
  have C3 : w3.cell? ⟨w.heap.size + 1, 0, none⟩ = _ := RC3.out.cell 0
  have l4 := run_ldA ty_rec RC3.out 0 (Nat.le_of_ble_eq_true rfl)
  rw [show (((rcs V).toList.drop 0).take 9).toArray = rcs V from rfl] at l4
  clear C3
  obtain ⟨w4, s4, H4, q4⟩ := H3.stA ty_rec 0 rfl 0 #[.int .i64 0, .int .u64 0, .int .u8 0, .int .u8 0, .int .u8 0, .int .u64 0, .int .u64 0, .int .u64 0, .int .u8 0] (cs' := rcs rz) rfl (L' := [(w.heap.size, 114, rcs rz), (g5, 345, #[.pointer (some ⟨gd, 0, none⟩)])]) rfl (Nat.le_of_ble_eq_true rfl) rfl rfl
  clear q4
  go_wp2_with fail
  refine (rdErr gd R e w3 RD3.out).mono ?_
  rintro E w' ⟨rfl, rfl⟩
  by_cases he : e = 0
  · subst he
    cases K
    · have HQ2 : Hid (∀ w', Below w.heap.size w w' → Q (.returned (.tuple #[.agg (rcs rz), .int .i64 4])) w') := fun w' h => by have := HQ.out w' h; simpa [tkG] using this
      go_wp2
      refine bodyPost_ret (shut_rec _ 4 _ Tryz.results227 ty_rec (H4.get 0 rfl) rfl rfl rfl) rfl ?_
      exact HQ2.out _ H4.be
    · cases R with
      | cons b R =>
        have HQ2 : Hid (∀ w', Below w.heap.size w w' → Q (.returned (.tuple #[.agg (rcs rz), .int .i64 4])) w') := fun w' h => by have := HQ.out w' h; simpa [tkG] using this
        have hemp : (str (b :: R)).toList.isEmpty = false := by rw [ByteArray.toList_eq, str_data]; rfl
        go_wp2_with fail
        refine (rdRest gd (b :: R) 0 w3 RD3.out).mono ?_
        rintro E w' ⟨rfl, rfl⟩
        go_wp2
        refine bodyPost_ret (shut_rec _ 4 _ Tryz.results227 ty_rec (H4.get 0 rfl) rfl rfl rfl) rfl ?_
        exact HQ2.out _ H4.be
      | nil =>
        have hemp : (str ([] : List UInt8)).toList.isEmpty = true := by rw [ByteArray.toList_eq, str_data]; rfl
        have HLOW := fun w => low_c V w HF.out
        go_wp2_with fail
        refine (rdRest gd [] 0 w3 RD3.out).mono ?_
        rintro E w' ⟨rfl, rfl⟩
        go_wp2_with fail
        refine (HLOW w3).mono ?_
        rintro E w5 ⟨rfl, hb5⟩
        have H5 := H3.to hb5
        have RC5 := RC3.out.below hb5 RC3.out.lt
        clear l3 l4 s4 HLOW
        cases hlow : lowB V
        · have HQ2 : Hid (∀ w', Below w.heap.size w w' → Q (.returned (.tuple #[.agg (rcs rz), .int .i64 4])) w') := fun w' h => by have := HQ.out w' h; simpa [tkG, hlow] using this
          obtain ⟨w6, s6, H6, q6⟩ := H5.stA ty_rec 0 rfl 0 #[.int .i64 0, .int .u64 0, .int .u8 0, .int .u8 0, .int .u8 0, .int .u64 0, .int .u64 0, .int .u64 0, .int .u8 0] (cs' := rcs rz) rfl (L' := [(w.heap.size, 114, rcs rz), (g5, 345, #[.pointer (some ⟨gd, 0, none⟩)])]) rfl (Nat.le_of_ble_eq_true rfl) rfl rfl
          clear q6
          go_wp2
          refine bodyPost_ret (shut_rec _ 4 _ Tryz.results227 ty_rec (H6.get 0 rfl) rfl rfl rfl) rfl ?_
          exact HQ2.out _ H6.be
        · have HQ2 : Hid (∀ w', Below w.heap.size w w' → Q (.returned (.tuple #[.agg (rcs V), .int .i64 0])) w') := fun w' h => by have := HQ.out w' h; simpa [tkG, hlow] using this
          have l5 := run_ldA ty_rec RC5 0 (Nat.le_of_ble_eq_true rfl)
          rw [show (((rcs V).toList.drop 0).take 9).toArray = rcs V from rfl] at l5
          obtain ⟨w6, s6, H6, q6⟩ := H5.stA ty_rec 0 rfl 0 (rcs V) (cs' := rcs V) rfl (L' := [(w.heap.size, 114, rcs V), (g5, 345, #[.pointer (some ⟨gd, 0, none⟩)])]) rfl (Nat.le_of_ble_eq_true rfl) rfl rfl
          clear q6
          go_wp2
          refine bodyPost_ret (shut_rec _ 0 _ Tryz.results227 ty_rec (H6.get 0 rfl) rfl rfl rfl) rfl ?_
          exact HQ2.out _ H6.be
  · have HQ2 : Hid (∀ w', Below w.heap.size w w' → Q (.returned (.tuple #[.agg (rcs rz), .int .i64 e])) w') := fun w' h => by have := HQ.out w' h; simpa [tkG, he] using this
    have hq0 : (e == 0) = false := beq_eq_false_iff_ne.2 he
    clear he
    go_wp2_with fail
    refine (rdErr gd R e w3 RD3.out).mono ?_
    rintro E w' ⟨rfl, rfl⟩
    go_wp2
    refine bodyPost_ret (shut_rec _ e _ Tryz.results227 ty_rec (H4.get 0 rfl) rfl rfl rfl) rfl ?_
    exact HQ2.out _ H4.be
theorem take_c' (l : List UInt8) (w : World) (hl : l.length ≤ 1099511627776) :
    Calls Tryz.prog 227 #[.string (str l)] w fun E w' => E = .returned (.tuple #[.agg (rcs (tkR l).2), .int .i64 (tkR l).1]) ∧ Below w.heap.size w w' := take_q l w hl _ (fun w' h => ⟨rfl, h⟩)
end Go.Proofs.YtgeaacabpnepmaaGreatDoor
/- A record put, by the program: one contract. Nothing is assumed but that the record's numbers lie in their kinds' ranges. -/
namespace Go.Proofs.YtgeaacabpnepmaaGreatDoor
open Go.RowKit
set_option linter.unusedVariables false
set_option linter.unusedSimpArgs false
set_option maxRecDepth 20000

def pA (r : Rc) : List UInt8 := if mayB r = true then encR r else []
def pE (r : Rc) : Int := if mayB r = true then 0 else 4
theorem encR_le (r : Rc) : (encR r).length ≤ 1099511627776 := Nat.le_trans (encR_len r) (by decide)
attribute [local go_sem ↓] ld_rec st_rec
set_option maxHeartbeats 1000000 in
theorem put_c (r : Rc) (w : World) (hf : r.fit) :
    Calls Tryz.prog 196 #[.agg (rcs r)] w fun E w' => E = .returned (.tuple #[.string (str (pA r)), .int .i64 (pE r)]) ∧ Below w.heap.size w w' := by
  have H0 := Loc.one w 114 (rcs r)
  have HF := Lib.hid hf
  have HY := Lib.hid (fun h : mayB r = true => tkR_enc hf h)
  have HN := Lib.hid (fun h : mayB r = false => put_no h)
  have HA := Lib.hid (fun h : mayB r = true => (show pA r = encR r ∧ pE r = 0 from ⟨if_pos h, if_pos h⟩))
  have HZ := Lib.hid (fun h : mayB r = false => (show pA r = [] ∧ pE r = 4 from ⟨if_neg (by simp [h]), if_neg (by simp [h])⟩))
  have HT := fun w => take_c' (encR r) w (encR_le r)
  generalize pA r = A at *
  generalize pE r = C at *
  generalize tkR (encR r) = T at *
  obtain ⟨e, V⟩ := T
  have HT := Lib.hid HT
  clear hf
  go_enter Tryz.func196, Tryz.ntmps196
  go_upto_region 1 with fail
  generalize w.alloc (.cells (rcs r) 114) = wa at *
  have WS := ws_new (T := 294) wa (fun k => k < wa.heap.size) (fun k h => h)
  have hlt := Lib.hid (H0.low (e := (w.heap.size, 114, rcs r)) (by simp))
  have H1 := H0.grown (grown_alloc wa (.cells #[.slice none 0 0] 294))
  go_upto_region 2 with fail
  generalize wa.alloc (.cells #[.slice none 0 0] 294) = wb at *
  obtain ⟨S, hS⟩ : ∃ S : Nat → Prop, S = fun k => k < wa.heap.size := ⟨_, rfl⟩
  rw [← hS] at WS
  have S0 := Lib.hid (show S w.heap.size by rw [hS]; exact hlt.out)
  have SB := Lib.hid (show ∀ k, k < w.heap.size → S k by rw [hS]; intro k hk; have := hlt.out; dsimp only at *; omega)
  clear hS hlt
  generalize wa.heap.size = gw at *
  have WS := Lib.hid WS
  go_wp2_with fail
  refine (encW gw w.heap.size S r wb HF.out WS.out (H1.get 0 rfl) S0.out).mono ?_
  rintro E w2 ⟨rfl, hw2⟩
  have H2 := H1.kept hw2.2 SB.out (List.Sublist.refl _) (fun x hx => by rw [List.mem_singleton] at hx; subst hx; exact S0.out)
  have W2 := Lib.hid hw2.1
  clear hw2 H0 H1 WS
  have H2 := Lib.hid H2
  go_wp2_with fail
  refine (wsBytes gw S (encR r) w2 W2.out).mono ?_
  rintro E w' ⟨rfl, rfl⟩
  go_wp2_with fail
  refine (HT.out w2).mono ?_
  rintro E w3 ⟨rfl, hb3⟩
  have H3 := H2.out.to hb3
  obtain ⟨g6, w4, z4, s4, H4, q4⟩ := H3.newA ty_rec #[.int .i64 0, .int .u64 0, .int .u8 0, .int .u8 0, .int .u8 0, .int .u64 0, .int .u64 0, .int .u64 0, .int .u8 0] (rcs V) rfl rfl rfl
  replace H4 : Loc w.heap.size w w4 [(w.heap.size, 114, rcs r), (g6, 114, rcs V)] := H4
  have l0 := H4.ldA ty_rec 0 rfl 0 (vs := rcs r) rfl (Nat.le_of_ble_eq_true rfl)
  have l1 := H4.ldA ty_rec 1 rfl 0 (vs := rcs V) rfl (Nat.le_of_ble_eq_true rfl)
  have HB := Lib.hid H4.be
  have hq := re_neq V r
  clear H3 H2 H4 hb3 q4
  cases hm : mayB r
  · obtain ⟨rfl, rfl⟩ := HZ.out hm
    have hn := HN.out hm
    by_cases he : e = 0
    · subst he
      have hv : V ≠ r := by rcases hn with h | h; exact absurd rfl h; exact h
      rw [reB_not hv] at hq
      clear hn hm
      go_wp2
      go_ret2
      exact ⟨rfl, HB.out⟩
    · have hq0 : (e == 0) = false := beq_eq_false_iff_ne.2 he
      have hq1 : (e != 0) = true := by simp [he]
      clear hn hm he
      go_wp2
      go_ret2
      exact ⟨rfl, HB.out⟩
  · obtain ⟨rfl, rfl⟩ := HA.out hm
    obtain ⟨rfl, rfl⟩ := Prod.mk.inj (HY.out hm)
    rw [reB_self] at hq
    clear hm
    go_wp2
    go_ret2
    exact ⟨rfl, HB.out⟩
end Go.Proofs.YtgeaacabpnepmaaGreatDoor
