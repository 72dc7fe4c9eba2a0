/- Lists of inputs that can be read: the last one, the same ones, and the statement's own list below 64: one contract each. -/
import Derived.Test.YtkhecaohbmlnlaaIb
import Derived.Test.YtkhecaohbmlnlaaRfD
import Derived.BigQuiet
namespace Go.Proofs.Ytkhecaohbmlnlaa
open Go.RowKit
set_option linter.unusedVariables false

/-- A list of inputs can be read at this address. -/
def Ins (w : World) (ao : Option Addr) (l : List UInt8) : Prop :=
  ∀ k (h : k < l.length), ∃ b o, ao = some ⟨b, o, none⟩ ∧ w.cell? ⟨b, o + k, none⟩ = some (.int .u8 ((l[k]'h).toNat : Int))
theorem ins_nil (w : World) (ao : Option Addr) : Ins w ao [] := fun k h => by simp at h
theorem ins_below {w w' : World} {B : Nat} {ao : Option Addr} {l : List UInt8} (h : Ins w ao l) (hb : Below B w w') (hB : w.heap.size ≤ B) : Ins w' ao l := fun k hk => by
  obtain ⟨b, o, e, hc⟩ := h k hk
  have hlt := World.block_lt_of_cell? w _ hc
  exact ⟨b, o, e, (hb.cell (p := ⟨b, o + k, none⟩) (Nat.lt_of_lt_of_le hlt hB)).trans hc⟩
theorem ins_own {w : World} {B cap : Nat} {ao : Option Addr} {l : List UInt8} (h : w.ownsRow B 22 1 (.slice ao l.length cap) l.length (bvs l)) : Ins w ao l := fun k hk => by
  rcases h.2 with ⟨_, h0⟩ | ⟨g, cap', cur, he, _⟩
  · omega
  · injection he with e1 e2 e3
    subst e1
    refine ⟨g, 0, rfl, ?_⟩
    have := World.ownsRow.cells h (g := g) rfl k (.int .u8 ((l[k]'hk).toNat : Int)) (by simp [bvs, bv, hk])
    have e : (⟨g, 0, none⟩ : Addr).add k = ⟨g, 0 + k, none⟩ := by unfold Addr.add; split <;> simp_all
    rwa [e] at this
theorem ins_cut {w : World} {b o n : Nat} {l : List UInt8} (h : Ins w (some ⟨b, o, none⟩) l) : Ins w (some ⟨b, o + n, none⟩) (l.drop n) := fun k hk => by
  have hk' : n + k < l.length := by simp at hk; omega
  obtain ⟨b', o', e, hc⟩ := h (n + k) hk'
  injection e with e
  injection e with e1 e2
  subst e1 e2
  refine ⟨b, o + n, rfl, ?_⟩
  rw [List.getElem_drop, Nat.add_assoc]
  exact hc
/-- The last one, and whether there is one. -/
def lastV (l : List UInt8) : Nat := match l.getLast? with | none => 0 | some a => a.toNat
def lastB (l : List UInt8) : Bool := match l.getLast? with | none => false | some _ => true
theorem last_at (l : List UInt8) (k : Nat) (h : k < l.length) (he : k + 1 = l.length) : l.getLast? = some (l[k]'h) := by
  rw [List.getLast?_eq_getElem?, show l.length - 1 = k from by omega, List.getElem?_eq_getElem h]
theorem lastV_lt (l : List UInt8) : lastV l < 256 := by
  unfold lastV
  split
  · omega
  · rename_i a _; exact a.toNat_lt

theorem last_c (ao : Option Addr) (cap : Nat) (l : List UInt8) (w : World) (h : Ins w ao l) (hl : l.length ≤ maxLen) :
    Calls Try.prog 36 #[.slice ao l.length cap] w fun E w' => E = .returned (.tuple #[.int .u8 (lastV l), .bool (lastB l)]) ∧ w = w' := by
  simp only [maxLen] at hl
  by_cases h0 : l.length = 0
  · have e : l = [] := List.eq_nil_of_length_eq_zero h0
    subst e
    go_enter Try.func36, Try.ntmps36
    go_wp2
    go_ret2
    exact ⟨rfl, rfl⟩
  · obtain ⟨k, hk⟩ : ∃ k, l.length = k + 1 := ⟨l.length - 1, by omega⟩
    obtain ⟨b, o, rfl, hc⟩ := h k (by omega)
    have hla := last_at l k (by omega) hk.symm
    have hv : lastV l = (l[k]'(by omega)).toNat := by unfold lastV; rw [hla]
    have hb : lastB l = true := by unfold lastB; rw [hla]
    rw [hk, hv, hb]
    have hl' : k + 1 ≤ 9223372036854775807 := by omega
    generalize (l[k]'(by omega)).toNat = v at *
    clear hla hv hb hl h h0 hk
    go_enter Try.func36, Try.ntmps36
    go_wp2
    go_ret2
    exact ⟨rfl, rfl⟩
theorem predict_c (ao : Option Addr) (cap : Nat) (l : List UInt8) (w : World) (h : Ins w ao l) (hl : l.length ≤ maxLen) :
    Calls Try.prog 21 #[.slice ao l.length cap] w fun E w' => E = .returned (.int .u8 (lastV l)) ∧ w = w' := by
  have h1 := last_c ao cap l w h hl
  generalize lastV l = v at *
  generalize lastB l = b at *
  go_enter Try.func21, Try.ntmps21
  go_wp2_with fail
  refine h1.mono ?_
  rintro E w1 ⟨rfl, rfl⟩
  go_wp2
  go_ret
  exact ⟨rfl, rfl⟩
theorem refPredict (ao : Option Addr) (cap : Nat) (l : List UInt8) (w : World) (h : Ins w ao l) (hl : l.length ≤ 1099511627776) :
    Calls Try.prog 22 #[.slice ao l.length cap] w fun E w' => E = .returned (.int .u8 (lastV l)) ∧ w = w' := by
  have H := Lib.hid h
  clear h
  go_enter Try.func22, Try.ntmps22
  go_wp2
  go_loop [3, 4] (fun v i => ∃ k : Nat, k ≤ l.length ∧ i = .int .i64 k ∧ v = .int .u8 (lastV (l.take k))) (fun _ i => l.length - (intOf i).toNat)
  case atStart => exact ⟨0, Nat.zero_le _, rfl, rfl⟩
  case round =>
    obtain ⟨k, hk, rfl, rfl⟩ := hrel
    by_cases hlt : k < l.length
    · obtain ⟨b, o, rfl, hc⟩ := H.out k hlt
      have hv : Hid (lastV (l.take (k + 1)) = (l[k]'hlt).toNat) := by
        show _ = _
        unfold lastV
        rw [last_at (l.take (k + 1)) k (by simp; omega) (by simp; omega)]
        simp
      go_wp2
      go_round
      case rel => exact ⟨k + 1, by omega, by go_num, by rw [hv.out]⟩
      case measure => simp [intOf]; omega
    · have hx : k = l.length := by omega
      subst hx
      rw [List.take_length]
      go_wp2
      go_ret
      exact ⟨rfl, rfl⟩
set_option maxHeartbeats 2000000 in
theorem refSame (ao ao' : Option Addr) (cap cap' : Nat) (l : List UInt8) (w : World) (hl : l.length ≤ 1099511627776) (hu : Ins w ao l) (hv : Ins w ao' l) :
    Calls Try.prog 23 #[.slice ao l.length cap, .slice ao' l.length cap'] w fun E w' => E = .returned (.bool true) ∧ w.grownBy w' none := by
  have HC := Lib.hid hu
  have HC' := Lib.hid hv
  clear hu hv
  go_enter Try.func23, Try.ntmps23
  go_wp2
  go_loopw [5] (fun i wr => ∃ k : Nat, k ≤ l.length ∧ i = .int .i64 k ∧ w.grownBy wr none) (fun i _ => l.length - (intOf i).toNat)
  case atStart => exact ⟨0, Nat.zero_le _, rfl, grown_refl _ _⟩
  case round =>
    obtain ⟨k, hk, rfl, hg⟩ := hrel
    have HG := Lib.hid hg
    by_cases hlt : k < l.length
    · obtain ⟨b, o, rfl, hcell⟩ := HC.out k hlt
      obtain ⟨b', o', rfl, hcell'⟩ := HC'.out k hlt
      have hlt1 := World.block_lt_of_cell? w _ hcell
      have hlt2 := World.block_lt_of_cell? w _ hcell'
      have hc1 := ((below_of_grown hg).cell (p := ⟨b, o + k, none⟩) hlt1).trans hcell
      have hc2 := ((below_of_grown hg).cell (p := ⟨b', o' + k, none⟩) hlt2).trans hcell'
      clear hcell hcell' hlt1 hlt2 hg
      generalize (l[k]'hlt).toNat = p at *
      go_wp2
      go_quiet (fail)
      go_wp2
      go_roundw
      case rel => exact ⟨k + 1, by omega, by go_num, HG.out.trans (grown_drewN _ _ _)⟩
      case measure => simp [intOf]; omega
    · have hx : k = l.length := by omega
      subst hx
      clear hg
      go_wp2
      go_ret
      exact ⟨rfl, HG.out⟩

theorem info_in : (Try.prog.info? 22).map (fun i => (i.zero, i.size, i.bytes)) = some (some (.int .u8 0), 1, 1) := by kernel_rfl
/-- A list of inputs that the call has made. -/
def IRow (w : World) (B : Nat) (v : Value) (l : List UInt8) (wr : World) : Prop :=
  ∃ ao cap, v = .slice ao l.length cap ∧ wr.ownsRow B 22 1 v l.length (bvs l) ∧ Below B w wr ∧ B ≤ wr.heap.size
theorem irow_start (w : World) : IRow w w.heap.size (.slice none 0 0) [] w := ⟨none, 0, rfl, World.ownsRow_nil _ _ _ _, Below.refl _ _, Nat.le_refl _⟩
theorem irow_push {w wr W w1 : World} {B g' cap cap' : Nat} {ao : Option Addr} {l : List UInt8} {x : Int} {b : UInt8} (hb : Below B w wr) (hB : B ≤ W.heap.size) (hW : Below B wr W)
    (hown : wr.ownsRow B 22 1 (.slice ao l.length cap) l.length (bvs l)) (hgr : W.grownBy w1 (Value.slice ao l.length cap).ownBlock)
    (hown1 : w1.ownsRow B 22 1 (.slice (some ⟨g', 0, none⟩) (l.length + 1) cap') (l.length + 1) (bvs l ++ [.int .u8 x])) (hx : x = (b.toNat : Int)) :
    IRow w B (.slice (some ⟨g', 0, none⟩) (l.length + 1) cap') (l ++ [b]) w1 := by
  subst hx
  refine ⟨some ⟨g', 0, none⟩, cap', by simp, ?_, (hb.trans hW).grown hgr hB (fun k e => (hown.lt k e).1), Nat.le_trans hB hgr.size⟩
  simpa [bvs_append, bvs, bv] using hown1
def m64 (a : UInt8) : UInt8 := UInt8.ofNat (a.toNat % 64)
theorem m64_int (a : UInt8) : ((a.toNat : Int) % 64) = ((m64 a).toNat : Int) := by
  have := a.toNat_lt
  unfold m64
  rw [UInt8.toNat_ofNat']; omega
theorem m64_ok (l : List UInt8) : ok64 (l.map m64) := by
  intro x hx
  obtain ⟨a, _, rfl⟩ := List.mem_map.1 hx
  unfold m64
  rw [UInt8.toNat_ofNat']; omega
set_option maxHeartbeats 2000000 in
theorem legalLaw (ao : Option Addr) (cap : Nat) (l : List UInt8) (w : World) (h : Ins w ao l) (hl : l.length ≤ 1500) :
    Calls Try.prog 26 #[.slice ao l.length cap] w fun E w' => ∃ v, E = .returned v ∧ IRow w w.heap.size v (l.map m64) w' := by
  have H := Lib.hid h
  clear h
  go_enter Try.func26, Try.ntmps26
  go_wp2
  go_loopw [3, 4] (fun v i wr => ∃ k : Nat, k ≤ l.length ∧ i = .int .i64 k ∧ IRow w w.heap.size v ((l.take k).map m64) wr) (fun _ i _ => l.length - (intOf i).toNat)
  case atStart => exact ⟨0, Nat.zero_le _, rfl, irow_start w⟩
  case round =>
    obtain ⟨k, hk, rfl, hrow⟩ := hrel
    by_cases hlt : k < l.length
    · have hsn : (l.take (k + 1)).map m64 = (l.take k).map m64 ++ [m64 (l[k]'hlt)] := by rw [List.take_succ_eq_append_getElem hlt, List.map_append]; rfl
      have HS := Lib.hid hsn
      clear hsn
      obtain ⟨ap, cp, rfl, hown, hb, hB⟩ := hrow
      obtain ⟨b, o, rfl, hc⟩ := ins_below H.out hb (Nat.le_refl _) k hlt
      have hlen : ((l.take k).map m64).length = k := by simp; omega
      have HL := Lib.hid hlen
      have HM := Lib.hid (m64_int (l[k]'hlt))
      generalize (l.take k).map m64 = bb at *
      generalize m64 (l[k]'hlt) = x at *
      clear hlen
      obtain ⟨i0, hi0, hz0, hz1, hz2⟩ := info_parts info_in
      have HI0 := Lib.hid hi0
      have HZ0 := Lib.hid hz0
      have HZ1 := Lib.hid hz1
      have HZ2 := Lib.hid hz2
      clear hi0 hz0 hz1 hz2
      have hb1 : bb.length + 1 ≤ maxLen := by have := HL.out; simp only [maxLen]; omega
      have hb2 : (bb.length + 1) * 1 ≤ 140737488355328 := by have := HL.out; omega
      go_wp2_with (at_builtin; refine wpList_append_lies _ rfl (.tmp 11) (.tmp 17) 27 rfl w.heap.size 22 i0 (.int .u8 0) 1 1 Try.underlying27 HI0.out HZ0.out HZ1.out HZ2.out rfl (by decide) _ _ _ (by simp [Act.eval]) (hown.alloc _) ⟨wr.heap.size, 0, none⟩ 1 1 [_] (by simp [Act.eval]) rfl (cell_one_new _ _ _) (by simp [Value.oneCell']) (by decide) hb1 hb2 (by simp; omega) _ rfl ?_; intro g' cap' w1 hown1 hgr hat2 hlt1)
      have HG := Lib.hid hgr
      clear hgr hat2
      go_wp2
      go_roundw
      case rel =>
        refine ⟨k + 1, by omega, by go_num, ?_⟩
        rw [HS.out]
        exact irow_push hb (by simp; omega) ((Below.refl _ wr).alloc (by omega) _) hown HG.out hown1 HM.out
      case measure => simp [intOf]; omega
    · have hx : k = l.length := by omega
      subst hx
      rw [List.take_length] at hrow
      have HR := Lib.hid hrow
      obtain ⟨ap, cp, rfl, _⟩ := hrow
      go_wp2
      go_ret
      exact ⟨_, rfl, HR.out⟩
end Go.Proofs.Ytkhecaohbmlnlaa
