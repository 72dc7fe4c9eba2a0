/- An item read: what is told, and where the reader is behind it. -/
import Derived.Test.YtdjiklokmiaieaaIt
import Derived.Deep.RegionHeld3
namespace Go.Proofs.Ytdjiklokmiaieaa
open Go.RowKit
set_option linter.unusedVariables false

theorem rd_alloc {w : World} {g : Nat} {l : List UInt8} {e : Int} (h : Rd w g l e) (o : Obj) : Rd (w.alloc o) g l e := ⟨h.1.alloc o, h.2⟩
theorem rdTo_alloc {w w' : World} {g : Nat} {l : List UInt8} {e : Int} {o : Obj} (h : RdTo (w.alloc o).drew g l e w') (hg : g < w.heap.size) : RdTo w g l e w' := by
  refine ⟨h.1, h.2.os, h.2.tape, h.2.output, by have := h.2.size; simp at this; omega, fun k hk hne => (h.2.block k (by simp; omega) hne).trans (Below.heap_alloc _ _ _ hk)⟩
/-- A bool is told; it is true if p. -/
def Told (p : Prop) (E : Ending) : Prop := ∃ b : Bool, E = .returned (.bool b) ∧ (p → b = true)
theorem told {p : Prop} {b : Bool} (h : p → b = true) : Told p (.returned (.bool b)) := ⟨b, rfl, h⟩

set_option maxHeartbeats 1000000 in
theorem get0 (x : Itm) (g : Nat) (l : List UInt8) (e : Int) (w : World) (hx : x.ok) (h : Rd w g l e) (h7 : x.k % 7 = 0) :
    Calls Try.prog 27 #[.pointer (some ⟨g, 0, none⟩), x.val] w fun E w' => Told ((num 1 l).val = x.n % 256) E ∧ RdTo w g (num 1 l).rest (fin e (num 1 l).err) w' := by
  obtain ⟨hx1, hx2, hx3⟩ := hx
  have hk : ((x.k : Int) % 7) = 0 := by omega
  have hr : Rd (w.alloc (.cells #[.int .u8 x.k, .int .u64 x.n, .string (str x.s)] 32)).drew g l e := rd_alloc h _
  have hbox : Cells (w.alloc (.cells #[.int .u8 x.k, .int .u64 x.n, .string (str x.s)] 32)).drew w.heap.size 32 #[.int .u8 x.k, .int .u64 x.n, .string (str x.s)] := Cells.made w _ _
  have hg := h.1.lt
  have HNE := Lib.hid (show some w.heap.size ≠ some g from by simp; omega)
  have HX2 := Lib.hid hx2
  clear h7 hx2
  unfold Itm.val
  go_enter Try.func27, Try.ntmps27
  go_wp2
  have hbc : (w.alloc (.cells #[.int .u8 x.k, .int .u64 x.n, .string (str x.s)] 32)).drew.cell? ⟨w.heap.size, 1, none⟩ = some (.int .u64 x.n) := by rw [hbox.cell]; rfl
  go_region_held3 (fun w' => w'.cell? ⟨w.heap.size, 1, none⟩ = some (.int .u64 x.n)) (first | assumption | exact hbc) (first | (go_at_call 14; refine (rdU8 g l e _ hr).mono ?_; rintro E w1 ⟨rfl, hw1⟩; have hcb := Cells.grown hbox hw1.2 HNE.out; have cb : w1.cell? ⟨w.heap.size, 1, none⟩ = some (.int .u64 x.n) := (by rw [hcb.cell]; rfl)))
  go_wp2
  go_ret
  refine ⟨told fun hp => ?_, rdTo_alloc hw1 hg⟩
  simp [hp, IntKind.wrap, IntKind.bits, IntKind.signed]

set_option maxHeartbeats 1000000 in
theorem get1 (x : Itm) (g : Nat) (l : List UInt8) (e : Int) (w : World) (hx : x.ok) (h : Rd w g l e) (h7 : x.k % 7 = 1) :
    Calls Try.prog 27 #[.pointer (some ⟨g, 0, none⟩), x.val] w fun E w' => Told ((num 2 l).val = x.n % 65536) E ∧ RdTo w g (num 2 l).rest (fin e (num 2 l).err) w' := by
  obtain ⟨hx1, hx2, hx3⟩ := hx
  have hk : ((x.k : Int) % 7) = 1 := by omega
  have hr : Rd (w.alloc (.cells #[.int .u8 x.k, .int .u64 x.n, .string (str x.s)] 32)).drew g l e := rd_alloc h _
  have hbox : Cells (w.alloc (.cells #[.int .u8 x.k, .int .u64 x.n, .string (str x.s)] 32)).drew w.heap.size 32 #[.int .u8 x.k, .int .u64 x.n, .string (str x.s)] := Cells.made w _ _
  have hg := h.1.lt
  have HNE := Lib.hid (show some w.heap.size ≠ some g from by simp; omega)
  have HX2 := Lib.hid hx2
  clear h7 hx2
  unfold Itm.val
  go_enter Try.func27, Try.ntmps27
  go_wp2
  have hbc : (w.alloc (.cells #[.int .u8 x.k, .int .u64 x.n, .string (str x.s)] 32)).drew.cell? ⟨w.heap.size, 1, none⟩ = some (.int .u64 x.n) := by rw [hbox.cell]; rfl
  go_region_held3 (fun w' => w'.cell? ⟨w.heap.size, 1, none⟩ = some (.int .u64 x.n)) (first | assumption | exact hbc) (first | (go_at_call 16; refine (rdU16 g l e _ hr).mono ?_; rintro E w1 ⟨rfl, hw1⟩; have hcb := Cells.grown hbox hw1.2 HNE.out; have cb : w1.cell? ⟨w.heap.size, 1, none⟩ = some (.int .u64 x.n) := (by rw [hcb.cell]; rfl)))
  go_wp2
  go_ret
  refine ⟨told fun hp => ?_, rdTo_alloc hw1 hg⟩
  simp [hp, IntKind.wrap, IntKind.bits, IntKind.signed]

set_option maxHeartbeats 1000000 in
theorem get2 (x : Itm) (g : Nat) (l : List UInt8) (e : Int) (w : World) (hx : x.ok) (h : Rd w g l e) (h7 : x.k % 7 = 2) :
    Calls Try.prog 27 #[.pointer (some ⟨g, 0, none⟩), x.val] w fun E w' => Told ((num 4 l).val = x.n % 4294967296) E ∧ RdTo w g (num 4 l).rest (fin e (num 4 l).err) w' := by
  obtain ⟨hx1, hx2, hx3⟩ := hx
  have hk : ((x.k : Int) % 7) = 2 := by omega
  have hr : Rd (w.alloc (.cells #[.int .u8 x.k, .int .u64 x.n, .string (str x.s)] 32)).drew g l e := rd_alloc h _
  have hbox : Cells (w.alloc (.cells #[.int .u8 x.k, .int .u64 x.n, .string (str x.s)] 32)).drew w.heap.size 32 #[.int .u8 x.k, .int .u64 x.n, .string (str x.s)] := Cells.made w _ _
  have hg := h.1.lt
  have HNE := Lib.hid (show some w.heap.size ≠ some g from by simp; omega)
  have HX2 := Lib.hid hx2
  clear h7 hx2
  unfold Itm.val
  go_enter Try.func27, Try.ntmps27
  go_wp2
  have hbc : (w.alloc (.cells #[.int .u8 x.k, .int .u64 x.n, .string (str x.s)] 32)).drew.cell? ⟨w.heap.size, 1, none⟩ = some (.int .u64 x.n) := by rw [hbox.cell]; rfl
  go_region_held3 (fun w' => w'.cell? ⟨w.heap.size, 1, none⟩ = some (.int .u64 x.n)) (first | assumption | exact hbc) (first | (go_at_call 17; refine (rdU32 g l e _ hr).mono ?_; rintro E w1 ⟨rfl, hw1⟩; have hcb := Cells.grown hbox hw1.2 HNE.out; have cb : w1.cell? ⟨w.heap.size, 1, none⟩ = some (.int .u64 x.n) := (by rw [hcb.cell]; rfl)))
  go_wp2
  go_ret
  refine ⟨told fun hp => ?_, rdTo_alloc hw1 hg⟩
  simp [hp, IntKind.wrap, IntKind.bits, IntKind.signed]

set_option maxHeartbeats 1000000 in
theorem get3 (x : Itm) (g : Nat) (l : List UInt8) (e : Int) (w : World) (hx : x.ok) (h : Rd w g l e) (h7 : x.k % 7 = 3) :
    Calls Try.prog 27 #[.pointer (some ⟨g, 0, none⟩), x.val] w fun E w' => Told ((num 8 l).val = x.n) E ∧ RdTo w g (num 8 l).rest (fin e (num 8 l).err) w' := by
  obtain ⟨hx1, hx2, hx3⟩ := hx
  have hk : ((x.k : Int) % 7) = 3 := by omega
  have hr : Rd (w.alloc (.cells #[.int .u8 x.k, .int .u64 x.n, .string (str x.s)] 32)).drew g l e := rd_alloc h _
  have hbox : Cells (w.alloc (.cells #[.int .u8 x.k, .int .u64 x.n, .string (str x.s)] 32)).drew w.heap.size 32 #[.int .u8 x.k, .int .u64 x.n, .string (str x.s)] := Cells.made w _ _
  have hg := h.1.lt
  have HNE := Lib.hid (show some w.heap.size ≠ some g from by simp; omega)
  have HX2 := Lib.hid hx2
  clear h7 hx2
  unfold Itm.val
  go_enter Try.func27, Try.ntmps27
  go_wp2
  have hbc : (w.alloc (.cells #[.int .u8 x.k, .int .u64 x.n, .string (str x.s)] 32)).drew.cell? ⟨w.heap.size, 1, none⟩ = some (.int .u64 x.n) := by rw [hbox.cell]; rfl
  go_region_held3 (fun w' => w'.cell? ⟨w.heap.size, 1, none⟩ = some (.int .u64 x.n)) (first | assumption | exact hbc) (first | (go_at_call 18; refine (rdU64 g l e _ hr).mono ?_; rintro E w1 ⟨rfl, hw1⟩; have hcb := Cells.grown hbox hw1.2 HNE.out; have cb : w1.cell? ⟨w.heap.size, 1, none⟩ = some (.int .u64 x.n) := (by rw [hcb.cell]; rfl)))
  go_wp2
  go_ret
  refine ⟨told fun hp => ?_, rdTo_alloc hw1 hg⟩
  simp [hp]

set_option maxHeartbeats 1000000 in
theorem get4 (x : Itm) (g : Nat) (l : List UInt8) (e : Int) (w : World) (hx : x.ok) (h : Rd w g l e) (h7 : x.k % 7 = 4) :
    Calls Try.prog 27 #[.pointer (some ⟨g, 0, none⟩), x.val] w fun E w' => Told ((num 4 l).val = x.n % 4294967296) E ∧ RdTo w g (num 4 l).rest (fin e (num 4 l).err) w' := by
  obtain ⟨hx1, hx2, hx3⟩ := hx
  have hk : ((x.k : Int) % 7) = 4 := by omega
  have hr : Rd (w.alloc (.cells #[.int .u8 x.k, .int .u64 x.n, .string (str x.s)] 32)).drew g l e := rd_alloc h _
  have hbox : Cells (w.alloc (.cells #[.int .u8 x.k, .int .u64 x.n, .string (str x.s)] 32)).drew w.heap.size 32 #[.int .u8 x.k, .int .u64 x.n, .string (str x.s)] := Cells.made w _ _
  have hg := h.1.lt
  have HNE := Lib.hid (show some w.heap.size ≠ some g from by simp; omega)
  have HX2 := Lib.hid hx2
  clear h7 hx2
  unfold Itm.val
  go_enter Try.func27, Try.ntmps27
  go_wp2
  have hbc : (w.alloc (.cells #[.int .u8 x.k, .int .u64 x.n, .string (str x.s)] 32)).drew.cell? ⟨w.heap.size, 1, none⟩ = some (.int .u64 x.n) := by rw [hbox.cell]; rfl
  go_region_held3 (fun w' => w'.cell? ⟨w.heap.size, 1, none⟩ = some (.int .u64 x.n)) (first | assumption | exact hbc) (first | (go_at_call 19; refine (rdI32 g l e _ hr).mono ?_; rintro E w1 ⟨rfl, hw1⟩; have hcb := Cells.grown hbox hw1.2 HNE.out; have cb : w1.cell? ⟨w.heap.size, 1, none⟩ = some (.int .u64 x.n) := (by rw [hcb.cell]; rfl)))
  go_wp2
  go_ret
  refine ⟨told fun hp => ?_, rdTo_alloc hw1 hg⟩
  simp [hp, IntKind.wrap, IntKind.bits, IntKind.signed, wrap32]; split <;> omega

set_option maxHeartbeats 1000000 in
theorem get5 (x : Itm) (g : Nat) (l : List UInt8) (e : Int) (w : World) (hx : x.ok) (h : Rd w g l e) (h7 : x.k % 7 = 5) :
    Calls Try.prog 27 #[.pointer (some ⟨g, 0, none⟩), x.val] w fun E w' => Told ((vd 0 l).val = x.n) E ∧ RdTo w g (vd 0 l).rest (fin e (vd 0 l).err) w' := by
  obtain ⟨hx1, hx2, hx3⟩ := hx
  have hk : ((x.k : Int) % 7) = 5 := by omega
  have hr : Rd (w.alloc (.cells #[.int .u8 x.k, .int .u64 x.n, .string (str x.s)] 32)).drew g l e := rd_alloc h _
  have hbox : Cells (w.alloc (.cells #[.int .u8 x.k, .int .u64 x.n, .string (str x.s)] 32)).drew w.heap.size 32 #[.int .u8 x.k, .int .u64 x.n, .string (str x.s)] := Cells.made w _ _
  have hg := h.1.lt
  have HNE := Lib.hid (show some w.heap.size ≠ some g from by simp; omega)
  have HX2 := Lib.hid hx2
  clear h7 hx2
  unfold Itm.val
  go_enter Try.func27, Try.ntmps27
  go_wp2
  have hbc : (w.alloc (.cells #[.int .u8 x.k, .int .u64 x.n, .string (str x.s)] 32)).drew.cell? ⟨w.heap.size, 1, none⟩ = some (.int .u64 x.n) := by rw [hbox.cell]; rfl
  go_region_held3 (fun w' => w'.cell? ⟨w.heap.size, 1, none⟩ = some (.int .u64 x.n)) (first | assumption | exact hbc) (first | (go_at_call 20; refine (rdVar g l e _ hr).mono ?_; rintro E w1 ⟨rfl, hw1⟩; have hcb := Cells.grown hbox hw1.2 HNE.out; have cb : w1.cell? ⟨w.heap.size, 1, none⟩ = some (.int .u64 x.n) := (by rw [hcb.cell]; rfl)))
  go_wp2
  go_ret
  refine ⟨told fun hp => ?_, rdTo_alloc hw1 hg⟩
  simp [hp]

set_option maxHeartbeats 1000000 in
theorem get6 (x : Itm) (g : Nat) (l : List UInt8) (e : Int) (w : World) (hx : x.ok) (h : Rd w g l e) (h7 : x.k % 7 = 6) :
    Calls Try.prog 27 #[.pointer (some ⟨g, 0, none⟩), x.val] w fun E w' => Told ((txd l).val = x.s) E ∧ RdTo w g (txd l).rest (fin e (txd l).err) w' := by
  obtain ⟨hx1, hx2, hx3⟩ := hx
  have hk : ((x.k : Int) % 7) = 6 := by omega
  have hr : Rd (w.alloc (.cells #[.int .u8 x.k, .int .u64 x.n, .string (str x.s)] 32)).drew g l e := rd_alloc h _
  have hbox : Cells (w.alloc (.cells #[.int .u8 x.k, .int .u64 x.n, .string (str x.s)] 32)).drew w.heap.size 32 #[.int .u8 x.k, .int .u64 x.n, .string (str x.s)] := Cells.made w _ _
  have hg := h.1.lt
  have HNE := Lib.hid (show some w.heap.size ≠ some g from by simp; omega)
  have HX2 := Lib.hid hx2
  clear h7 hx2
  unfold Itm.val
  go_enter Try.func27, Try.ntmps27
  go_wp2
  have hbc : (w.alloc (.cells #[.int .u8 x.k, .int .u64 x.n, .string (str x.s)] 32)).drew.cell? ⟨w.heap.size, 2, none⟩ = some (.string (str x.s)) := by rw [hbox.cell]; rfl
  go_region_held3 (fun w' => w'.cell? ⟨w.heap.size, 2, none⟩ = some (.string (str x.s))) (first | assumption | exact hbc) (first | (go_at_call 22; refine (rdText g l e _ hr).mono ?_; rintro E w1 ⟨rfl, hw1⟩; have hcb := Cells.grown hbox hw1.2 HNE.out; have cb : w1.cell? ⟨w.heap.size, 2, none⟩ = some (.string (str x.s)) := (by rw [hcb.cell]; rfl)))
  go_wp2
  go_ret
  refine ⟨told fun hp => ?_, rdTo_alloc hw1 hg⟩
  simp [hp]

/-- Where a reader is behind an item of a kind. -/
def aft (k : Nat) (l : List UInt8) : Got Unit :=
  if k % 7 = 0 then ⟨(num 1 l).err, (), (num 1 l).rest⟩ else if k % 7 = 1 then ⟨(num 2 l).err, (), (num 2 l).rest⟩ else if k % 7 = 2 then ⟨(num 4 l).err, (), (num 4 l).rest⟩
  else if k % 7 = 3 then ⟨(num 8 l).err, (), (num 8 l).rest⟩ else if k % 7 = 4 then ⟨(num 4 l).err, (), (num 4 l).rest⟩
  else if k % 7 = 5 then ⟨(vd 0 l).err, (), (vd 0 l).rest⟩ else ⟨(txd l).err, (), (txd l).rest⟩
theorem num_enc (k n : Nat) (more : List UInt8) : num k (le k n ++ more) = ⟨0, n % 256 ^ k, more⟩ := by
  have hl := le_length k n
  unfold num
  rw [if_pos (by rw [List.length_append]; omega), List.take_left' hl, List.drop_left' hl, un_le]
theorem txd_enc (s more : List UInt8) (hs : s.length < 18446744073709551616) : txd (tx s ++ more) = ⟨0, s, more⟩ := by
  unfold txd tx
  rw [List.append_assoc, vd_vr _ _ hs]
  simp [tk]
theorem num_short {k : Nat} {p : List UInt8} (h : p.length < k) : num k p = ⟨10, 0, []⟩ := by unfold num; rw [if_neg (by omega)]
theorem num_cut {k n : Nat} {p s : List UInt8} (h : le k n = p ++ s) (hs : s ≠ []) : num k p = ⟨10, 0, []⟩ := by
  have hl := congrArg List.length h
  rw [le_length, List.length_append] at hl
  have : 0 < s.length := List.length_pos_iff.2 hs
  exact num_short (by omega)
theorem vd_cut {n : Nat} {p s : List UInt8} (h : vr n = p ++ s) (hs : s ≠ []) : vd 0 p = ⟨10, 0, []⟩ := vd_vrF_cut 9 0 n p s h hs (by omega)
theorem txd_cut {t p s : List UInt8} (ht : t.length < 18446744073709551616) (h : tx t = p ++ s) (hs : s ≠ []) : txd p = ⟨10, [], []⟩ := by
  have hl := congrArg List.length h
  unfold tx at h hl
  simp only [List.length_append] at hl
  have hsl : 0 < s.length := List.length_pos_iff.2 hs
  rcases Nat.lt_or_ge p.length (vr t.length).length with hp | hp
  · have h1 : vr t.length = p ++ (vr t.length).drop p.length := by
      have := congrArg (List.take (vr t.length).length) h
      rw [List.take_left, List.take_append, List.take_of_length_le (by omega)] at this
      have h2 : p = (vr t.length).take p.length := by rw [this, List.take_left]
      conv => lhs; rw [← List.take_append_drop p.length (vr t.length)]
      rw [← h2]
    have h3 := vd_cut h1 (by rw [← List.length_pos_iff, List.length_drop]; omega)
    unfold txd
    rw [h3]
    simp
  · have h1 : p = vr t.length ++ p.drop (vr t.length).length := by
      have := congrArg (List.take (vr t.length).length) h
      rw [List.take_left, List.take_append_of_le_length hp] at this
      conv => lhs; rw [← List.take_append_drop (vr t.length).length p]
      rw [← this]
    have hd := congrArg List.length h1
    rw [List.length_append] at hd
    unfold txd
    rw [h1, vd_vr _ _ ht]
    simp only [tk]
    rw [if_pos trivial, if_neg (by omega)]
theorem aft_enc (x : Itm) (hx : x.ok) (more : List UInt8) : aft x.k (enc x ++ more) = ⟨0, (), more⟩ := by
  obtain ⟨_, h2, h3⟩ := hx
  unfold aft enc
  rcases rem7 x.k with h7 | h7 | h7 | h7 | h7 | h7 | h7 <;> simp [h7, num_enc, vd_vr _ _ h2, txd_enc x.s more (by omega)]
theorem aft_cut (x : Itm) (hx : x.ok) {p s : List UInt8} (h : enc x = p ++ s) (hs : s ≠ []) : aft x.k p = ⟨10, (), []⟩ := by
  obtain ⟨_, h2, h3⟩ := hx
  unfold enc at h
  unfold aft
  rcases rem7 x.k with h7 | h7 | h7 | h7 | h7 | h7 | h7 <;> simp [h7] at h ⊢
  · simp [num_cut h hs]
  · simp [num_cut h hs]
  · simp [num_cut h hs]
  · simp [num_cut h hs]
  · simp [num_cut h hs]
  · simp [vd_cut h hs]
  · simp [txd_cut (by omega) h hs]
theorem aft_nil (k : Nat) : aft k [] = ⟨10, (), []⟩ := by
  unfold aft
  rcases rem7 k with h7 | h7 | h7 | h7 | h7 | h7 | h7 <;> simp [h7, num, vd, txd]
theorem get_c (x : Itm) (g : Nat) (l : List UInt8) (e : Int) (w : World) (hx : x.ok) (h : Rd w g l e) :
    Calls Try.prog 27 #[.pointer (some ⟨g, 0, none⟩), x.val] w fun E w' => Told (∃ more, l = enc x ++ more) E ∧ RdTo w g (aft x.k l).rest (fin e (aft x.k l).err) w' := by
  have hh := hx
  obtain ⟨_, h2, h3⟩ := hh
  rcases rem7 x.k with h7 | h7 | h7 | h7 | h7 | h7 | h7
  · rw [show aft x.k l = ⟨(num 1 l).err, (), (num 1 l).rest⟩ from by unfold aft; simp [h7]]
    refine (get0 x g l e w hx h h7).mono ?_
    rintro E w' ⟨⟨b, rfl, hb⟩, hw⟩
    refine ⟨told fun hm => ?_, hw⟩
    obtain ⟨more, rfl⟩ := hm
    apply hb
    rw [show enc x = le 1 x.n from by unfold enc; simp [h7], num_enc 1 x.n more]

  · rw [show aft x.k l = ⟨(num 2 l).err, (), (num 2 l).rest⟩ from by unfold aft; simp [h7]]
    refine (get1 x g l e w hx h h7).mono ?_
    rintro E w' ⟨⟨b, rfl, hb⟩, hw⟩
    refine ⟨told fun hm => ?_, hw⟩
    obtain ⟨more, rfl⟩ := hm
    apply hb
    rw [show enc x = le 2 x.n from by unfold enc; simp [h7], num_enc 2 x.n more]

  · rw [show aft x.k l = ⟨(num 4 l).err, (), (num 4 l).rest⟩ from by unfold aft; simp [h7]]
    refine (get2 x g l e w hx h h7).mono ?_
    rintro E w' ⟨⟨b, rfl, hb⟩, hw⟩
    refine ⟨told fun hm => ?_, hw⟩
    obtain ⟨more, rfl⟩ := hm
    apply hb
    rw [show enc x = le 4 x.n from by unfold enc; simp [h7], num_enc 4 x.n more]

  · rw [show aft x.k l = ⟨(num 8 l).err, (), (num 8 l).rest⟩ from by unfold aft; simp [h7]]
    refine (get3 x g l e w hx h h7).mono ?_
    rintro E w' ⟨⟨b, rfl, hb⟩, hw⟩
    refine ⟨told fun hm => ?_, hw⟩
    obtain ⟨more, rfl⟩ := hm
    apply hb
    rw [show enc x = le 8 x.n from by unfold enc; simp [h7], num_enc 8 x.n more]
    exact Nat.mod_eq_of_lt h2
  · rw [show aft x.k l = ⟨(num 4 l).err, (), (num 4 l).rest⟩ from by unfold aft; simp [h7]]
    refine (get4 x g l e w hx h h7).mono ?_
    rintro E w' ⟨⟨b, rfl, hb⟩, hw⟩
    refine ⟨told fun hm => ?_, hw⟩
    obtain ⟨more, rfl⟩ := hm
    apply hb
    rw [show enc x = le 4 x.n from by unfold enc; simp [h7], num_enc 4 x.n more]

  · rw [show aft x.k l = ⟨(vd 0 l).err, (), (vd 0 l).rest⟩ from by unfold aft; simp [h7]]
    refine (get5 x g l e w hx h h7).mono ?_
    rintro E w' ⟨⟨b, rfl, hb⟩, hw⟩
    refine ⟨told fun hm => ?_, hw⟩
    obtain ⟨more, rfl⟩ := hm
    apply hb
    rw [show enc x = vr x.n from by unfold enc; simp [h7], vd_vr x.n more h2]

  · rw [show aft x.k l = ⟨(txd l).err, (), (txd l).rest⟩ from by unfold aft; simp [h7]]
    refine (get6 x g l e w hx h h7).mono ?_
    rintro E w' ⟨⟨b, rfl, hb⟩, hw⟩
    refine ⟨told fun hm => ?_, hw⟩
    obtain ⟨more, rfl⟩ := hm
    apply hb
    rw [show enc x = tx x.s from by unfold enc; simp [h7], txd_enc x.s more (by omega)]

end Go.Proofs.Ytdjiklokmiaieaa
