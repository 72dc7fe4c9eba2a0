/- The document's answer for layer 2: numbers, vars and texts as bytes: one contract each. -/
import Derived.Test.YtbmkmmkebophpaaDoorWrB
namespace Go.Proofs.YtbmkmmkebophpaaDoor
open Go.RowKit
set_option linter.unusedVariables false

theorem grown_of_below {w w' : World} {r : Option Nat} (h : Below w.heap.size w w') : w.grownBy w' r := ⟨h.os, h.tape, h.output, h.size, fun k hk _ => h.block k hk⟩
theorem below_of_grown {w w' : World} (h : w.grownBy w' none) : Below w.heap.size w w' := ⟨h.os, h.tape, h.output, h.size, fun k hk => h.block k hk (by simp)⟩
/-- A slice of bytes that the call has made. -/
def Row (w : World) (B : Nat) (v : Value) (bs : List UInt8) (wr : World) : Prop :=
  ∃ ao cap, v = .slice ao bs.length cap ∧ wr.ownsRow B 5 1 v bs.length (bvs bs) ∧ Below B w wr ∧ B ≤ wr.heap.size
theorem row_start (w : World) : Row w w.heap.size (.slice none 0 0) [] w := ⟨none, 0, rfl, World.ownsRow_nil _ _ _ _, Below.refl _ _, Nat.le_refl _⟩
theorem row_push {w wr W w1 : World} {B g' cap cap' : Nat} {ao : Option Addr} {bb : List UInt8} {x : Int} {b : UInt8} (hb : Below B w wr) (hB : B ≤ W.heap.size) (hW : Below B wr W)
    (hown : wr.ownsRow B 5 1 (.slice ao bb.length cap) bb.length (bvs bb)) (hgr : W.grownBy w1 (Value.slice ao bb.length cap).ownBlock)
    (hown1 : w1.ownsRow B 5 1 (.slice (some ⟨g', 0, none⟩) (bb.length + 1) cap') (bb.length + 1) (bvs bb ++ [.int .u8 x])) (hx : x = (b.toNat : Int)) :
    Row w B (.slice (some ⟨g', 0, none⟩) (bb.length + 1) cap') (bb ++ [b]) w1 := by
  subst hx
  refine ⟨some ⟨g', 0, none⟩, cap', by simp, ?_, (hb.trans hW).grown hgr hB (fun k e => (hown.lt k e).1), Nat.le_trans hB hgr.size⟩
  simpa [bvs_append, bvs, bv] using hown1
set_option maxRecDepth 100000 in
theorem row_bytes {w : World} {B cap : Nat} {ao : Option Addr} {bs : List UInt8} (ho : w.ownsRow B 5 1 (.slice ao bs.length cap) bs.length (bvs bs)) :
    (convert 58 9 (.slice ao bs.length cap)).run Tryd.prog w = .ok (.string (str bs)) w := by
  rcases ho.2 with ⟨he, h0⟩ | ⟨g', cap', cur, he, _, hh, _⟩
  · have : bs = [] := List.eq_nil_of_length_eq_zero h0
    subst this
    injection he with e1 e2 e3
    subst e1 e3
    exact Lib.run_convert_nil_bytes w _ _ 5 0 Tryd.underlying58 Tryd.underlying5 Tryd.underlying9
  · injection he with e1 e2 e3
    subst e1 e3
    refine run_convert_bytes_back w _ _ 5 _ _ bs Tryd.underlying58 Tryd.underlying5 Tryd.underlying9 (fun j hj => ?_)
    exact ho.cells (g := g') rfl j _ (by simp [bvs, bv, List.getElem?_eq_getElem hj])
theorem byte_mod (m : Nat) (h : m < 256) : (m : Int) = ((UInt8.ofNat m).toNat : Int) := by
  rw [UInt8.toNat_ofNat']; omega
theorem udiv_id (m d : Nat) (hm : m < 18446744073709551616) : IntKind.u64.wrap ((m : Int) / (d : Int)) = ((m / d : Nat) : Int) := by
  have h : m / d ≤ m := Nat.div_le_self _ _
  rw [show ((m : Int) / (d : Int)) = ((m / d : Nat) : Int) from rfl]
  generalize m / d = q at *
  exact u64_id _ (by omega) (by omega)
theorem udiv_eq {m d r : Nat} (hm : m < 18446744073709551616) (h : m / d = r) : Value.int .u64 (IntKind.u64.wrap ((m : Int) / (d : Int))) = .int .u64 (r : Int) := by rw [udiv_id m d hm, h]
theorem div_pow_lt {n i : Nat} (hn : n < 18446744073709551616) : n / 256 ^ i < 18446744073709551616 := Nat.lt_of_le_of_lt (Nat.div_le_self _ _) hn
theorem vrAt_lt {n m : Nat} {done : List UInt8} (h : VrAt n done m) : m < 18446744073709551616 := by
  obtain ⟨f, hf, hlt, _⟩ := h
  have : 2 ^ (7 * f + 1) ≤ 2 ^ 64 := Nat.pow_le_pow_right (by omega) (by omega)
  omega
theorem row_pushed {w1 : World} {B g' cap' : Nat} {bb : List UInt8} {x : Int} {b : UInt8}
    (hown1 : w1.ownsRow B 5 1 (.slice (some ⟨g', 0, none⟩) (bb.length + 1) cap') (bb.length + 1) (bvs bb ++ [.int .u8 x])) (hx : x = (b.toNat : Int)) :
    (convert 58 9 (.slice (some ⟨g', 0, none⟩) (bb.length + 1) cap')).run Tryd.prog w1 = .ok (.string (str (bb ++ [b]))) w1 := by
  subst hx
  have h2 : (bb ++ [b]).length = bb.length + 1 := by simp
  have := row_bytes (w := w1) (B := B) (ao := some ⟨g', 0, none⟩) (cap := cap') (bs := bb ++ [b]) (by rw [h2]; simpa [bvs_append, bvs, bv] using hown1)
  rwa [h2] at this
def NumPut (w : World) (n k : Nat) (v s j : Value) (wr : World) : Prop :=
  ∃ i : Nat, i ≤ k ∧ v = .int .u64 ((n / 256 ^ i : Nat) : Int) ∧ j = .int .i64 i ∧ Row w w.heap.size s (le i n) wr

set_option maxHeartbeats 1000000 in
set_option maxRecDepth 20000 in
theorem refNumber (n k : Nat) (w : World) (hn : n < 18446744073709551616) (hk : k ≤ 8) :
    Calls Tryd.prog 37 #[.int .u64 n, .int .i64 k] w fun E w' => E = .returned (.string (str (le k n))) ∧ w.grownBy w' none := by
  have HN := Lib.hid hn
  clear hn
  go_enter Tryd.func37, Tryd.ntmps37
  go_wp2
  go_loopw [0, 5, 6] (fun v s j wr => NumPut w n k v s j wr) (fun _ _ j _ => k - (intOf j).toNat)
  case atStart => exact ⟨0, by omega, by simp, rfl, row_start w⟩
  case round =>
    obtain ⟨i, hi, rfl, rfl, hrow⟩ := hrel
    by_cases hlt : i < k
    · have HB := Lib.hid (le_snoc i n)
      have hll := le_length i n
      generalize hbb : le i n = bb at *
      have hln : bb.length ≤ 8 := by omega
      have HBB := Lib.hid hbb
      have HLL := Lib.hid hll
      clear hbb hll
      have HD : Hid (n / 256 ^ i / 256 = n / 256 ^ (i + 1)) := by show _ = _; rw [Nat.div_div_eq_div_mul, Nat.pow_succ]
      have HL := Lib.hid (div_pow_lt (i := i) HN.out)
      have HM := Lib.hid (byte_mod (n / 256 ^ i % 256) (Nat.mod_lt _ (by decide)))
      generalize n / 256 ^ i = m at *
      obtain ⟨ao, cap, rfl, hown, hb, hB⟩ := hrow
      obtain ⟨i0, hi0, hz0, hz1, hz2⟩ := info_parts info_u8
      have HI0 := Lib.hid hi0
      have HZ0 := Lib.hid hz0
      have HZ1 := Lib.hid hz1
      have HZ2 := Lib.hid hz2
      clear hi0 hz0 hz1 hz2
      have hb1 : bb.length + 1 ≤ maxLen := by simp only [maxLen]; omega
      have hb2 : (bb.length + 1) * 1 ≤ 140737488355328 := by omega
      go_wp2_with (at_builtin; refine wpList_append_lies _ rfl (.tmp 12) (.tmp 16) 58 rfl w.heap.size 5 i0 (.int .u8 0) 1 1 Tryd.underlying58 HI0.out HZ0.out HZ1.out HZ2.out rfl (by decide) _ _ _ (by simp [Act.eval]) (hown.alloc _) ⟨wr.heap.size, 0, none⟩ 1 1 [_] (by simp [Act.eval]) rfl (cell_one_new _ _ _) (by simp [Value.oneCell']) (by decide) hb1 hb2 (by simp; omega) _ rfl ?_; intro g' cap' w1 hown1 hgr hat2 hlt1)
      have HG := Lib.hid hgr
      have HA := Lib.hid hat2
      clear hgr hat2
      go_wp2
      go_roundw
      case rel =>
        refine ⟨i + 1, by omega, ?_, by go_num, ?_⟩
        · exact udiv_eq HL.out HD.out
        · rw [HB.out]
          exact row_push hb (by simp; omega) ((Below.refl _ wr).alloc (by omega) _) hown HG.out hown1 HM.out
      case measure => simp [intOf]; omega
    · have hx : i = k := by omega
      subst hx
      obtain ⟨ao, cap, rfl, hown, hb, hB⟩ := hrow
      have hcv := row_bytes hown
      go_wp2
      go_ret
      exact ⟨rfl, grown_of_below hb⟩

def VarRow (w : World) (n : Nat) (v s : Value) (wr : World) : Prop :=
  ∃ (m : Nat) (done : List UInt8), v = .int .u64 m ∧ VrAt n done m ∧ Row w w.heap.size s done wr
set_option maxHeartbeats 1000000 in
set_option maxRecDepth 20000 in
theorem refVar (n : Nat) (w : World) (hn : n < 18446744073709551616) :
    Calls Tryd.prog 39 #[.int .u64 n] w fun E w' => E = .returned (.string (str (vr n))) ∧ w.grownBy w' none := by
  have HN := Lib.hid hn
  clear hn
  go_enter Tryd.func39, Tryd.ntmps39
  go_wp2
  go_loopw [0, 3] (fun v s wr => VarRow w n v s wr) (fun v _ _ => (intOf v).toNat)
  case atStart => exact ⟨n, [], rfl, vrAt_start HN.out, row_start w⟩
  case round =>
    obtain ⟨m, bb, rfl, hat, hrow⟩ := hrel
    have hdl := vrAt_len hat
    have HL := Lib.hid (vrAt_lt hat)
    obtain ⟨ao, cap, rfl, hown, hb, hB⟩ := hrow
    by_cases hm : 128 ≤ m
    · have HM := Lib.hid (byte_mod (m % 128 + 128) (by omega))
      obtain ⟨i0, hi0, hz0, hz1, hz2⟩ := info_parts info_u8
      have HI0 := Lib.hid hi0
      have HZ0 := Lib.hid hz0
      have HZ1 := Lib.hid hz1
      have HZ2 := Lib.hid hz2
      clear hi0 hz0 hz1 hz2
      have hb1 : bb.length + 1 ≤ maxLen := by simp only [maxLen]; omega
      have hb2 : (bb.length + 1) * 1 ≤ 140737488355328 := by omega
      go_wp2_with (at_builtin; refine wpList_append_lies _ rfl (.tmp 6) (.tmp 11) 58 rfl w.heap.size 5 i0 (.int .u8 0) 1 1 Tryd.underlying58 HI0.out HZ0.out HZ1.out HZ2.out rfl (by decide) _ _ _ (by simp [Act.eval]) (hown.alloc _) ⟨wr.heap.size, 0, none⟩ 1 1 [_] (by simp [Act.eval]) rfl (cell_one_new _ _ _) (by simp [Value.oneCell']) (by decide) hb1 hb2 (by simp; omega) _ rfl ?_; intro g' cap' w1 hown1 hgr hat2 hlt1)
      have HG := Lib.hid hgr
      have HA := Lib.hid hat2
      clear hgr hat2
      go_wp2
      go_roundw
      case rel =>
        refine ⟨m / 128, bb ++ [UInt8.ofNat (m % 128 + 128)], udiv_eq HL.out rfl, ?_, ?_⟩
        · have := vrAt_next (c := m % 128 + 128) hat hm rfl
          rwa [le_one (show m % 128 + 128 < 256 from by omega)] at this
        · exact row_push hb (by simp; omega) ((Below.refl _ wr).alloc (by omega) _) hown HG.out hown1 HM.out
      case measure => have := udiv_id m 128 HL.out; simp [intOf] at this ⊢; omega
    · have HM := Lib.hid (byte_mod m (by omega))
      obtain ⟨i0, hi0, hz0, hz1, hz2⟩ := info_parts info_u8
      have HI0 := Lib.hid hi0
      have HZ0 := Lib.hid hz0
      have HZ1 := Lib.hid hz1
      have HZ2 := Lib.hid hz2
      clear hi0 hz0 hz1 hz2
      have hb1 : bb.length + 1 ≤ maxLen := by simp only [maxLen]; omega
      have hb2 : (bb.length + 1) * 1 ≤ 140737488355328 := by omega
      go_wp2_with (at_builtin; refine wpList_append_lies _ rfl (.tmp 15) (.tmp 18) 58 rfl w.heap.size 5 i0 (.int .u8 0) 1 1 Tryd.underlying58 HI0.out HZ0.out HZ1.out HZ2.out rfl (by decide) _ _ _ (by simp [Act.eval]) (hown.alloc _) ⟨wr.heap.size, 0, none⟩ 1 1 [_] (by simp [Act.eval]) rfl (cell_one_new _ _ _) (by simp [Value.oneCell']) (by decide) hb1 hb2 (by simp; omega) _ rfl ?_; intro g' cap' w1 hown1 hgr hat2 hlt1; have hcv := row_pushed hown1 HM.out; have HOWN := Lib.hid hown1; clear hown1)
      have HG := Lib.hid hgr
      have HA := Lib.hid hat2
      clear hgr hat2
      have HR := Lib.hid (row_push (b := UInt8.ofNat m) hb (by simp; omega) ((Below.refl _ wr).alloc (by omega) _) hown HG.out HOWN.out HM.out)
      have HE := Lib.hid (vrAt_last hat (by omega) rfl)
      go_wp2
      go_ret
      refine ⟨by rw [HE.out, le_one (by omega)]; rfl, ?_⟩
      obtain ⟨_, _, _, _, hb2, _⟩ := HR.out
      exact grown_of_below hb2
end Go.Proofs.YtbmkmmkebophpaaDoor
