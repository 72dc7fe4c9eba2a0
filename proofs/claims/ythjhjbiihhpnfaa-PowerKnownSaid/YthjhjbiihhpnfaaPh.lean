/- The five writes of a power; what it tells. -/
import Derived.Test.YthjhjbiihhpnfaaPg
namespace Go.Proofs.Ythjhjbiihhpnfaa
open Go.RowKit
set_option linter.unusedVariables false
set_option linter.unusedSimpArgs false
set_option maxRecDepth 100000

theorem enters {P : Program} {f : FuncId} {fn : Func} {c : Code} (hf : P.funcs[f]? = some fn) (hname : (fn.name == "runtime.NumGoroutine") = false) (hb : fn.body = some c) : ∀ (args : Array Value) (w : World), (callFunc f args).run P w = .ok (.enter f args) w := fun args w => by
  have h1 : fn.name ≠ "runtime.NumGoroutine" := by simpa using hname
  simp [callFunc, hf, h1, hb]
/-- Behind a write of kind k. -/
def WPost (S : Nat → Prop) (w : World) (g : Nat) (dv : Value) (q : Nat) (ko : Option Addr) (kc : Nat) (p : Pw) (k : Nat) (n t : List UInt8) : Ending → World → Prop   := WrPost S w g dv q ko kc p (wrR k q p.E n t) (wrE k q p.E n t)
theorem ckept {w w1 : World} {g b : Nat} {v : Value} (ht : Tu (fun x => x = g) w w1) (hb : w.cell? ⟨b, 0, none⟩ = some v) (hgb : b ≠ g) : w1.cell? ⟨b, 0, none⟩ = some v := by
  rw [World.cell?_of_block (w := w) (ht.block b (World.block_lt_of_cell? w _ hb) hgb)]; exact hb
theorem does_create {S : Nat → Prop} {g q b : Nat} {dv : Value} {E : List Ent} (n t : List UInt8) (w : World) (hS : ∀ x, w.heap.size ≤ x → S x) (hn : n.length ≤ maxLen) (hl : t.length ≤ maxLen) (hb : w.cell? ⟨b, 0, none⟩ = some (.string (str n))) (hgb : b ≠ g) :
    Does S w g 21 #[.pointer (some ⟨b, 0, none⟩)] dv q E (wrR 0 q E n t) (wrE 0 q E n t) := by
  intro w1 ht1 hd
  obtain ⟨gd, rfl⟩ := hd.ptr1
  have c1 := ckept ht1 hb hgb

  have HD := Lib.hid hd
  have HC := Lib.hid (create_c n w1 hd (fun x hx => hS x (Nat.le_trans ht1.size hx)) hn)
  clear hb hd ht1 hS
  rw [show (#[.pointer (some ⟨gd, 0, none⟩)] ++ #[.pointer (some ⟨b, 0, none⟩)] : Array Value) = #[.pointer (some ⟨gd, 0, none⟩), .pointer (some ⟨b, 0, none⟩)] from by simp]
  show Calls _ _ _ _ fun R w2 => R = .returned (.int .i64 (wrR 0 q E n t : Nat)) ∧ DkS S w2 (.pointer (some ⟨gd, 0, none⟩)) q (wrE 0 q E n t) ∧ Tu S w1 w2
  unfold wrR wrE
  go_enter Try.func21, Try.ntmps21
  go_wp2_with fail
  refine HC.out.mono ?_
  rintro R w2 ⟨rfl, hd2, ht2⟩
  have D2 := Lib.hid hd2
  have T2 := Lib.hid ht2
  clear hd2 ht2
  go_wp2
  go_ret
  exact ⟨rfl, D2.out, T2.out⟩
set_option maxHeartbeats 1000000 in
theorem pcreate_c {S : Nat → Prop} {g q : Nat} {dv : Value} {kc : Nat} {ko : Option Addr} {p : Pw} (n t : List UInt8) (w : World) (h : PwC S w g dv q ko kc p) (hS : ∀ x, w.heap.size ≤ x → S x) (hn : n.length ≤ maxLen) (hl : t.length ≤ maxLen) (hp : p.n < 1000000) :
    Calls Try.prog 8 #[.pointer (some ⟨g, 0, none⟩), .string (str n)] w (WPost S w g dv q ko kc p 0 n t) := by
  have hmf : ∀ (fn : Fn) (first cap : Array Value) (w : World), (Instr.makeFunc fn first cap).run Try.prog w = .ok (.func fn first cap) w := fun _ _ _ _ => rfl
  have hlt := h.lt
  have ha := below_alloc w (.cells #[.string (str n)] 9)
  have hb := (Cells.made w 9 #[.string (str n)]).cell 0
  have A := Lib.hid ha
  have HW := Lib.hid (write_c (enters Try.func21 (by kernel_rfl) rfl) _ (h.new ha) hp (does_create n t _ (fun x hx => hS x (Nat.le_trans ha.size hx)) hn hl hb (by omega)))
  clear ha hb hS h hlt
  go_enter Try.func8, Try.ntmps8
  go_wp2_with fail
  refine HW.out.mono ?_
  rintro R w1 ⟨rfl, hp1, ht1⟩
  have P1 := Lib.hid hp1
  have T1 := Lib.hid ht1
  clear hp1 ht1
  go_wp2
  go_ret
  exact ⟨rfl, P1.out, (Tu.new A.out).trans T1.out (fun _ _ h => h)⟩
theorem does_append {S : Nat → Prop} {g q b : Nat} {b2 : Nat} {dv : Value} {E : List Ent} (n t : List UInt8) (w : World) (hS : ∀ x, w.heap.size ≤ x → S x) (hn : n.length ≤ maxLen) (hl : t.length ≤ maxLen) (hb : w.cell? ⟨b, 0, none⟩ = some (.string (str n))) (hgb : b ≠ g) (hb2 : w.cell? ⟨b2, 0, none⟩ = some (.string (str t))) (hgb2 : b2 ≠ g) :
    Does S w g 23 #[.pointer (some ⟨b, 0, none⟩), .pointer (some ⟨b2, 0, none⟩)] dv q E (wrR 1 q E n t) (wrE 1 q E n t) := by
  intro w1 ht1 hd
  obtain ⟨gd, rfl⟩ := hd.ptr1
  have c1 := ckept ht1 hb hgb
  have c2 := ckept ht1 hb2 hgb2
  have HD := Lib.hid hd
  have HC := Lib.hid (append_c n t w1 hd (fun x hx => hS x (Nat.le_trans ht1.size hx)) hn hl)
  clear hb hb2 hd ht1 hS
  rw [show (#[.pointer (some ⟨gd, 0, none⟩)] ++ #[.pointer (some ⟨b, 0, none⟩), .pointer (some ⟨b2, 0, none⟩)] : Array Value) = #[.pointer (some ⟨gd, 0, none⟩), .pointer (some ⟨b, 0, none⟩), .pointer (some ⟨b2, 0, none⟩)] from by simp]
  show Calls _ _ _ _ fun R w2 => R = .returned (.int .i64 (wrR 1 q E n t : Nat)) ∧ DkS S w2 (.pointer (some ⟨gd, 0, none⟩)) q (wrE 1 q E n t) ∧ Tu S w1 w2
  unfold wrR wrE
  go_enter Try.func23, Try.ntmps23
  go_wp2_with fail
  refine HC.out.mono ?_
  rintro R w2 ⟨rfl, hd2, ht2⟩
  have D2 := Lib.hid hd2
  have T2 := Lib.hid ht2
  clear hd2 ht2
  go_wp2
  go_ret
  exact ⟨rfl, D2.out, T2.out⟩
set_option maxHeartbeats 1000000 in
theorem pappend_c {S : Nat → Prop} {g q : Nat} {dv : Value} {kc : Nat} {ko : Option Addr} {p : Pw} (n t : List UInt8) (w : World) (h : PwC S w g dv q ko kc p) (hS : ∀ x, w.heap.size ≤ x → S x) (hn : n.length ≤ maxLen) (hl : t.length ≤ maxLen) (hp : p.n < 1000000) :
    Calls Try.prog 9 #[.pointer (some ⟨g, 0, none⟩), .string (str n), .string (str t)] w (WPost S w g dv q ko kc p 1 n t) := by
  have hmf : ∀ (fn : Fn) (first cap : Array Value) (w : World), (Instr.makeFunc fn first cap).run Try.prog w = .ok (.func fn first cap) w := fun _ _ _ _ => rfl
  have hlt := h.lt
  have ha := below_alloc w (.cells #[.string (str n)] 9)
  have hb := (Cells.made w 9 #[.string (str n)]).cell 0
  have ha2 := below_alloc (w.alloc (.cells #[.string (str n)] 9)) (.cells #[.string (str t)] 9)
  have hb2 := (Cells.made (w.alloc (.cells #[.string (str n)] 9)) 9 #[.string (str t)]).cell 0
  have hb1 := ((Cells.made w 9 #[.string (str n)]).alloc (.cells #[.string (str t)] 9)).cell 0
  have ha3 := ha.trans (ha2.mono ha.size)
  have hsz : (w.alloc (.cells #[.string (str n)] 9)).heap.size = w.heap.size + 1 := World.size_alloc w _
  rw [hsz] at hb2
  have A := Lib.hid ha3
  have HW := Lib.hid (write_c (enters Try.func23 (by kernel_rfl) rfl) _ (h.new ha3) hp (does_append n t _ (fun x hx => hS x (Nat.le_trans ha3.size hx)) hn hl hb1 (by omega) hb2 (by omega)))
  clear ha ha2 ha3 hb hb1 hb2 hsz hS h hlt
  go_enter Try.func9, Try.ntmps9
  go_wp2_with fail
  refine HW.out.mono ?_
  rintro R w1 ⟨rfl, hp1, ht1⟩
  have P1 := Lib.hid hp1
  have T1 := Lib.hid ht1
  clear hp1 ht1
  go_wp2
  go_ret
  exact ⟨rfl, P1.out, (Tu.new A.out).trans T1.out (fun _ _ h => h)⟩
theorem does_sync {S : Nat → Prop} {g q b : Nat} {dv : Value} {E : List Ent} (n t : List UInt8) (w : World) (hS : ∀ x, w.heap.size ≤ x → S x) (hn : n.length ≤ maxLen) (hl : t.length ≤ maxLen) (hb : w.cell? ⟨b, 0, none⟩ = some (.string (str n))) (hgb : b ≠ g) :
    Does S w g 25 #[.pointer (some ⟨b, 0, none⟩)] dv q E (wrR 2 q E n t) (wrE 2 q E n t) := by
  intro w1 ht1 hd
  obtain ⟨gd, rfl⟩ := hd.ptr1
  have c1 := ckept ht1 hb hgb

  have HD := Lib.hid hd
  have HC := Lib.hid (sync_c n w1 hd hn)
  clear hb hd ht1 hS
  rw [show (#[.pointer (some ⟨gd, 0, none⟩)] ++ #[.pointer (some ⟨b, 0, none⟩)] : Array Value) = #[.pointer (some ⟨gd, 0, none⟩), .pointer (some ⟨b, 0, none⟩)] from by simp]
  show Calls _ _ _ _ fun R w2 => R = .returned (.int .i64 (wrR 2 q E n t : Nat)) ∧ DkS S w2 (.pointer (some ⟨gd, 0, none⟩)) q (wrE 2 q E n t) ∧ Tu S w1 w2
  unfold wrR wrE
  go_enter Try.func25, Try.ntmps25
  go_wp2_with fail
  refine HC.out.mono ?_
  rintro R w2 ⟨rfl, hd2, ht2⟩
  have D2 := Lib.hid hd2
  have T2 := Lib.hid ht2
  clear hd2 ht2
  go_wp2
  go_ret
  exact ⟨rfl, D2.out, T2.out⟩
set_option maxHeartbeats 1000000 in
theorem psync_c {S : Nat → Prop} {g q : Nat} {dv : Value} {kc : Nat} {ko : Option Addr} {p : Pw} (n t : List UInt8) (w : World) (h : PwC S w g dv q ko kc p) (hS : ∀ x, w.heap.size ≤ x → S x) (hn : n.length ≤ maxLen) (hl : t.length ≤ maxLen) (hp : p.n < 1000000) :
    Calls Try.prog 10 #[.pointer (some ⟨g, 0, none⟩), .string (str n)] w (WPost S w g dv q ko kc p 2 n t) := by
  have hmf : ∀ (fn : Fn) (first cap : Array Value) (w : World), (Instr.makeFunc fn first cap).run Try.prog w = .ok (.func fn first cap) w := fun _ _ _ _ => rfl
  have hlt := h.lt
  have ha := below_alloc w (.cells #[.string (str n)] 9)
  have hb := (Cells.made w 9 #[.string (str n)]).cell 0
  have A := Lib.hid ha
  have HW := Lib.hid (write_c (enters Try.func25 (by kernel_rfl) rfl) _ (h.new ha) hp (does_sync n t _ (fun x hx => hS x (Nat.le_trans ha.size hx)) hn hl hb (by omega)))
  clear ha hb hS h hlt
  go_enter Try.func10, Try.ntmps10
  go_wp2_with fail
  refine HW.out.mono ?_
  rintro R w1 ⟨rfl, hp1, ht1⟩
  have P1 := Lib.hid hp1
  have T1 := Lib.hid ht1
  clear hp1 ht1
  go_wp2
  go_ret
  exact ⟨rfl, P1.out, (Tu.new A.out).trans T1.out (fun _ _ h => h)⟩
end Go.Proofs.Ythjhjbiihhpnfaa
