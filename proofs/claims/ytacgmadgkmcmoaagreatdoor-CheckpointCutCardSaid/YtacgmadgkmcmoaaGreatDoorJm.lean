/- A state brought within bounds, out of any one, as the statement makes it: its contract. -/
import Derived.Test.YtacgmadgkmcmoaaGreatDoorJk
import Derived.Deep.AppendLies
namespace Go.Proofs.YtacgmadgkmcmoaaGreatDoor
open Go.RowKit
set_option linter.unusedVariables false
set_option linter.unusedSimpArgs false
set_option maxRecDepth 20000
/-- A row of shots of one's own, at B or beyond, none of these blocks. -/
structure Shr (B : Nat) (w : World) (bs : List Nat) (ao : Option Addr) (n cap : Nat) (l : List Sh) : Prop where
  own : w.ownsRow B 98 6 (.slice ao n cap) n (Hall l)
  len : l.length = n
  far : ∀ b ∈ bs, (Value.slice ao n cap).ownBlock ≠ some b
  lo : ∀ b ∈ bs, b < w.heap.size
  nil : ao = none → cap = 0
section
variable {B : Nat} {w0 w w' : World} {L L' : List (Nat × TypeId × Array Value)} {bs : List Nat} {ao : Option Addr} {n cap : Nat} {l : List Sh}
theorem Shr.none (B : Nat) (w : World) (bs : List Nat) (hl : ∀ b ∈ bs, b < w.heap.size) : Shr B w bs none 0 0 [] := ⟨World.ownsRow_nil _ _ _ _, rfl, fun b _ h => (by cases h), hl, fun _ => rfl⟩
theorem Shr.to (h : Shr B w bs ao n cap l) (hb : Below w.heap.size w w') : Shr B w' bs ao n cap l :=
  ⟨h.own.kept (grown_of_below (r := Option.none) hb) (by cases hv : (Value.slice ao n cap).ownBlock <;> simp), h.len, h.far, fun b hbb => Nat.lt_of_lt_of_le (h.lo b hbb) hb.size, h.nil⟩
theorem Shr.turn (h : Shr B w bs ao n cap l) {g : Nat} (hg : g ∈ bs) (hb : w.grownBy w' (some g)) : Shr B w' bs ao n cap l :=
  ⟨h.own.kept hb (.inr (h.far g hg)), h.len, h.far, fun b hbb => Nat.lt_of_lt_of_le (h.lo b hbb) hb.size, h.nil⟩
theorem Shr.less (h : Shr B w bs ao n cap l) {bs' : List Nat} (hs : ∀ b ∈ bs', b ∈ bs) : Shr B w bs' ao n cap l := ⟨h.own, h.len, fun b hb => h.far b (hs b hb), fun b hb => h.lo b (hs b hb), h.nil⟩
theorem Shr.low {B' : Nat} (h : Shr B w bs ao n cap l) (hB : B' ≤ B) : Shr B' w bs ao n cap l := ⟨owns_less h.own hB, h.len, h.far, h.lo, h.nil⟩
theorem Shr.shs (h : Shr B w bs ao n cap l) (hf : ∀ x ∈ l, x.fit) : Shs w ao l := by
  have := h.own
  exact shs_own this h.len hf
/-- A block laid out new, beside the row. -/
theorem Shr.fresh (h : Shr B w bs ao n cap l) (hg : w.grownBy w' Option.none) {g : Nat} (e : w.heap.size = g) (hlt : g < w'.heap.size) : Shr B w' (bs ++ [g]) ao n cap l := by
  have h1 := h.to (below_of_grown hg)
  refine ⟨h1.own, h1.len, fun b hb e' => ?_, fun b hb => ?_, h1.nil⟩
  · rcases List.mem_append.1 hb with hb | hb
    · exact h.far b hb e'
    · rw [List.mem_singleton] at hb
      have := (h.own.lt b e').2
      omega
  · rcases List.mem_append.1 hb with hb | hb
    · exact h1.lo b hb
    · rw [List.mem_singleton] at hb; omega
theorem Shr.two (h : Shr B w [] ao n cap l) (o o' : Obj) : Shr B ((w.alloc o).alloc o') [w.heap.size, w.heap.size + 1] ao n cap l :=
  (h.fresh (w' := w.alloc o) (grown_alloc _ _) rfl (by simp)).fresh (grown_alloc _ _) (by simp) (by simp)
theorem Loc.own (h : Loc B w0 w L) (hr : Shr B w bs ao n cap l) (hbs : ∀ e ∈ L, e.1 ∈ bs) (hb : w.grownBy w' (Value.slice ao n cap).ownBlock) : Loc B w0 w' L := by
  cases hv : (Value.slice ao n cap).ownBlock with
  | none => rw [hv] at hb; exact h.grown hb
  | some r =>
    rw [hv] at hb
    exact h.row hb (hr.own.lt r hv).1 (fun e he q => hr.far e.1 (hbs e he) (by rw [hv, q]))
end
/-- A shot, a state brought within bounds. -/
def mkr (x : Sh) : Sh := ⟨nr x.x 0 65024, 0, nr x.vx (-2048) 2048, 0, x.o % 2, 1 + x.l % 40⟩
def rgt (s : St) (f : Nat) : St := ⟨f, s.sd, ⟨nr s.p.x 0 61440, 14336, 0, nr s.p.vy (-1024) 1024, 100, 0, 0⟩, ⟨nr s.q.x 0 61440, 14336, 0, nr s.q.vy (-1024) 1024, 100, 0, 1⟩, (s.ss.take 8).map mkr, s.s0, s.s1⟩
theorem mkr_good (s : Sh) : (mkr s).good = true ∧ (mkr s).fit := by
  have h0 := nr_in (n := s.x) (show (0 : Int) ≤ 65024 by decide)
  have h2 := nr_in (n := s.vx) (show (-2048 : Int) ≤ 2048 by decide)
  refine ⟨?_, ⟨?_, ?_⟩, ⟨?_, ?_⟩, ⟨?_, ?_⟩, ⟨?_, ?_⟩, ?_, ?_⟩
  · rw [goodShot]
    simp only [Bool.and_eq_true]
    (repeat' apply And.intro) <;> first | rfl | exact trivial | exact decide_eq_true (by first | omega | (try simp only [mkr]); omega)
  all_goals (simp only [mkr]; omega)
theorem rgt_good (s : St) (f : Nat) : (rgt s f).good = true := by
  rw [good_st]
  have h : ((s.ss.take 8).map mkr).all Sh.good = true := by
    rw [List.all_eq_true]
    intro x hx
    obtain ⟨y, _, rfl⟩ := List.mem_map.1 hx
    exact (mkr_good y).1
  have hl : ((s.ss.take 8).map mkr).length ≤ 8 := by simp; omega
  have hd : decide ((rgt s f).ss.length ≤ 8) = true := decide_eq_true hl
  have h' : (rgt s f).ss.all Sh.good = true := h
  have a0 := nr_in (n := s.p.x) (show (0 : Int) ≤ 61440 by decide)
  have a1 := nr_in (n := s.p.vy) (show (-1024 : Int) ≤ 1024 by decide)
  have b0 := nr_in (n := s.q.x) (show (0 : Int) ≤ 61440 by decide)
  have b1 := nr_in (n := s.q.vy) (show (-1024 : Int) ≤ 1024 by decide)
  have hp : [(rgt s f).p, (rgt s f).q].all Pl.good = true := by
    simp only [List.all_cons, List.all_nil, Bool.and_true, Bool.and_eq_true, rgt]
    refine ⟨?_, ?_⟩
    all_goals
      rw [goodPlayer]
      simp only [Bool.and_eq_true]
      (repeat' apply And.intro) <;> first | rfl | exact trivial | exact decide_eq_true (by omega)
  rw [hd, h', hp]
  rfl
theorem rgt_fit {s : St} {f : Nat} (hs : s.fit) (hf : f < 18446744073709551616) : (rgt s f).fit := by
  have a0 := nr_in (n := s.p.x) (show (0 : Int) ≤ 61440 by decide)
  have a1 := nr_in (n := s.p.vy) (show (-1024 : Int) ≤ 1024 by decide)
  have b0 := nr_in (n := s.q.x) (show (0 : Int) ≤ 61440 by decide)
  have b1 := nr_in (n := s.q.vy) (show (-1024 : Int) ≤ 1024 by decide)
  refine ⟨hf, hs.2.1, ⟨⟨?_, ?_⟩, ⟨?_, ?_⟩, ⟨?_, ?_⟩, ⟨?_, ?_⟩, ?_, ?_, ?_⟩, ⟨⟨?_, ?_⟩, ⟨?_, ?_⟩, ⟨?_, ?_⟩, ⟨?_, ?_⟩, ?_, ?_, ?_⟩, fun x hx => ?_, hs.2.2.2.2.2.1, hs.2.2.2.2.2.2⟩
  all_goals first | (simp only [rgt]; omega) | skip
  obtain ⟨y, _, rfl⟩ := List.mem_map.1 (show x ∈ (s.ss.take 8).map mkr from hx)
  exact (mkr_good y).2
theorem rgt_few (s : St) (f : Nat) : (rgt s f).ss.length ≤ 8 := by show ((s.ss.take 8).map mkr).length ≤ 8; simp; omega
/-- Its cells under way. -/
def rcl (f sd : Nat) (px pv qx qv : Int) (ao : Option Addr) (n cap s0 s1 : Nat) : Array Value :=
  #[.int .u64 (f : Int), .int .u64 (sd : Int), .int .i32 px, .int .i32 14336, .int .i32 0, .int .i32 pv, .int .u8 100, .int .u8 0, .int .u8 0, .int .i32 qx, .int .i32 14336, .int .i32 0, .int .i32 qv, .int .u8 100, .int .u8 0, .int .u8 1, .slice ao n cap, .int .u16 (s0 : Int), .int .u16 (s1 : Int)]
def RgPost (s : St) (f : Nat) (w : World) (R : Ending) (w' : World) : Prop :=
  ∃ ao cap, R = .returned (sv (rgt s f) ao cap) ∧ Shs w' ao (rgt s f).ss ∧ (∀ a, ao = some a → (rgt s f).ss ≠ [] → w.heap.size ≤ a.block) ∧ Below w.heap.size w w'
theorem ty_score18 : TyA 32 2 := tya_array Tryz.underlying32 (by kernel_rfl)
theorem ld_score18 (v : Value) : Instr.loadAt 32 v = ldT 32 v := rfl
theorem st_score18 (p v : Value) : Instr.storeAt 32 p v = stT 32 p v := rfl
theorem ld_cell {T : TypeId} (ty : TyO T) {w : World} {a : Addr} {v : Value} (hc : w.cell? a = some v) : (ldT T (.pointer (some a))).run Tryz.prog w = .ok v w := by
  simp [ldT, Instr.loadAt, Instr.sureAddr, loadVar, ty.agg w, hc, go_sem]
/-- These blocks stay. -/
def Stays (wd : World) (b0 g5 b : Nat) (W : World) : Prop := W.heap[b0]? = wd.heap[b0]? ∧ W.heap[g5]? = wd.heap[g5]? ∧ ∀ i v, wd.cell? ⟨b, i, none⟩ = some v → W.cell? ⟨b, i, none⟩ = some v
theorem near_s (n a b : Int) {W : World} (hn : i32 n) (ha : i32 a) (hb : i32 b) (hab : a ≤ b) : Calls Tryz.prog 80 #[.int .i32 n, .int .i32 a, .int .i32 b] W fun E w' => E = .returned (.int .i32 (nr n a b)) ∧ W = w' := near_c n a b W hn ha hb hab
attribute [local go_sem ↓] ld_state st_state ld_u64 st_u64 ld_score18 st_score18 ld_i32 st_i32 ld_u8 ld_shots st_shots
set_option maxHeartbeats 8000000 in
theorem right_c (s : St) (f : Nat) (ao : Option Addr) (cap : Nat) (w : World) (h : Shs w ao s.ss) (hf : s.fit) (hl : s.ss.length ≤ maxLen) :
    Calls Tryz.prog 30 #[sv s ao cap, .int .u64 (f : Int)] w (RgPost s f w) := by
  have H0 := Loc.two w 34 34 (stc s ao cap) (stc .zero none 0)
  have HFP := Lib.hid hf.2.2.1
  have HFQ := Lib.hid hf.2.2.2.1
  have HS := Lib.hid h
  have KS : Hid (∀ W, Calls Tryz.prog 79 #[.int .u64 (s.sd : Int)] W fun E w' => E = .returned (.agg (rcl 0 s.sd 8192 0 53248 0 none 0 0 0 0)) ∧ W.grownBy w' none) := fun W => start_c s.sd W
  simp only [maxLen] at hl
  obtain ⟨Q, hQ⟩ : ∃ Q, Q = RgPost s f w := ⟨_, rfl⟩
  rw [← hQ]
  have HQ := Lib.hid hQ
  clear hQ h hf
  go_enter Tryz.func30, Tryz.ntmps30
  go_upto_region 1 with fail
  rw [show (#[.int .u64 0, .int .u64 0, .int .i32 0, .int .i32 0, .int .i32 0, .int .i32 0, .int .u8 0, .int .u8 0, .int .u8 0, .int .i32 0, .int .i32 0, .int .i32 0, .int .i32 0, .int .u8 0, .int .u8 0, .int .u8 0, .slice none 0 0, .int .u16 0, .int .u16 0] : Array Value) = stc .zero none 0 from rfl]
  generalize (w.alloc (.cells (stc s ao cap) 34)).alloc (.cells (stc .zero none 0) 34) = wa at *
  have l1 := H0.ldO ty_u64 0 rfl 1 (v := .int .u64 (s.sd : Int)) rfl
  go_wp2_with fail
  refine (KS.out wa).mono ?_
  rintro R w1 ⟨rfl, hb1⟩
  have H1 := H0.grown hb1
  clear hb1 l1 KS H0
  obtain ⟨g5, w2, z2, s2, H2, -⟩ := H1.newA ty_state #[.int .u64 0, .int .u64 0, .int .i32 0, .int .i32 0, .int .i32 0, .int .i32 0, .int .u8 0, .int .u8 0, .int .u8 0, .int .i32 0, .int .i32 0, .int .i32 0, .int .i32 0, .int .u8 0, .int .u8 0, .int .u8 0, .slice none 0 0, .int .u16 0, .int .u16 0] (rcl 0 s.sd 8192 0 53248 0 none 0 0 0 0) rfl rfl rfl
  replace H2 : Loc _ _ _ [(w.heap.size, 34, stc s ao cap), (w.heap.size + 1, 34, stc .zero none 0), (g5, 34, rcl 0 s.sd 8192 0 53248 0 none 0 0 0 0)] := H2
  have HG5 := Lib.hid (show w.heap.size + 1 < g5 from z2 ▸ H1.low (e := (w.heap.size + 1, 34, stc .zero none 0)) (by simp))
  obtain ⟨w3, s3, H3, -⟩ := H2.stO ty_u64 2 rfl 0 (.int .u64 (f : Int)) (cs' := rcl f s.sd 8192 0 53248 0 none 0 0 0 0) rfl (L' := [(w.heap.size, 34, stc s ao cap), (w.heap.size + 1, 34, stc .zero none 0), (g5, 34, rcl f s.sd 8192 0 53248 0 none 0 0 0 0)]) rfl (Nat.le_of_ble_eq_true rfl) rfl rfl
  have l3 := H3.ldA ty_score18 0 rfl 17 (vs := #[.int .u16 (s.s0 : Int), .int .u16 (s.s1 : Int)]) rfl (Nat.le_of_ble_eq_true rfl)
  obtain ⟨w4, s4, H4, -⟩ := H3.stA ty_score18 2 rfl 17 #[.int .u16 (s.s0 : Int), .int .u16 (s.s1 : Int)] (cs' := rcl f s.sd 8192 0 53248 0 none 0 0 s.s0 s.s1) rfl (L' := [(w.heap.size, 34, stc s ao cap), (w.heap.size + 1, 34, stc .zero none 0), (g5, 34, rcl f s.sd 8192 0 53248 0 none 0 0 s.s0 s.s1)]) rfl (Nat.le_of_ble_eq_true rfl) rfl rfl
  have HL4 := Lib.hid H4
  clear H1 H2 H3 H4
  go_wp2
  clear s2 s3 s4 l3
  go_loopw [6] (fun iv wr => ∃ k : Nat, k ≤ 2 ∧ iv = .int .i64 (k : Int) ∧ Hid (Loc w.heap.size w wr [(w.heap.size, 34, stc s ao cap), (w.heap.size + 1, 34, stc .zero none 0), (g5, 34, rcl f s.sd (if k = 0 then 8192 else nr s.p.x 0 61440) (if k = 0 then 0 else nr s.p.vy (-1024) 1024) (if k = 2 then nr s.q.x 0 61440 else 53248) (if k = 2 then nr s.q.vy (-1024) 1024 else 0) none 0 0 s.s0 s.s1)])) (fun iv _ => 2 - (intOf iv).toNat)
  case atStart => exact ⟨0, by omega, rfl, HL4.out⟩
  case round =>
    obtain ⟨k, hk, rfl, HL⟩ := hrel
    clear HL4
    have hk3 : k = 0 ∨ k = 1 ∨ k = 2 := by omega
    rcases hk3 with rfl | rfl | rfl
    · have H5 : Loc w.heap.size w wr [(w.heap.size, 34, stc s ao cap), (w.heap.size + 1, 34, stc .zero none 0), (g5, 34, rcl f s.sd (8192) (0) (53248) (0) none 0 0 s.s0 s.s1)] := HL.out
      obtain ⟨fx, fy, fvx, fvy, fh, fc, ff⟩ := HFP.out
      have l5 := H5.ldO ty_i32 0 rfl 2 (v := .int .i32 s.p.x) rfl
      go_wp2_with fail
      refine (near_s s.p.x 0 61440 fx (by unfold i32; decide) (by unfold i32; decide) (by decide)).mono ?_
      rintro R w' ⟨rfl, rfl⟩
      obtain ⟨w6, s6, H6, -⟩ := H5.stO ty_i32 2 rfl 2 (.int .i32 (nr s.p.x 0 61440)) (cs' := rcl f s.sd (nr s.p.x 0 61440) (0) (53248) (0) none 0 0 s.s0 s.s1) rfl (L' := [(w.heap.size, 34, stc s ao cap), (w.heap.size + 1, 34, stc .zero none 0), (g5, 34, rcl f s.sd (nr s.p.x 0 61440) (0) (53248) (0) none 0 0 s.s0 s.s1)]) rfl (Nat.le_of_ble_eq_true rfl) rfl rfl
      have l6 := H6.ldO ty_i32 0 rfl 5 (v := .int .i32 s.p.vy) rfl
      clear l5 H5 HL
      go_wp2_with fail
      refine (near_s s.p.vy (-1024) 1024 fvy (by unfold i32; decide) (by unfold i32; decide) (by decide)).mono ?_
      rintro R w' ⟨rfl, rfl⟩
      obtain ⟨w7, s7, H7, -⟩ := H6.stO ty_i32 2 rfl 5 (.int .i32 (nr s.p.vy (-1024) 1024)) (cs' := rcl f s.sd (nr s.p.x 0 61440) (nr s.p.vy (-1024) 1024) (53248) (0) none 0 0 s.s0 s.s1) rfl (L' := [(w.heap.size, 34, stc s ao cap), (w.heap.size + 1, 34, stc .zero none 0), (g5, 34, rcl f s.sd (nr s.p.x 0 61440) (nr s.p.vy (-1024) 1024) (53248) (0) none 0 0 s.s0 s.s1)]) rfl (Nat.le_of_ble_eq_true rfl) rfl rfl
      have HL7 := Lib.hid H7
      clear l6 H6 H7
      go_wp2
      go_roundw
      case rel => exact ⟨0 + 1, by omega, by first | rfl | go_num, HL7.out⟩
      case measure => simp [intOf]
    · have H5 : Loc w.heap.size w wr [(w.heap.size, 34, stc s ao cap), (w.heap.size + 1, 34, stc .zero none 0), (g5, 34, rcl f s.sd (nr s.p.x 0 61440) (nr s.p.vy (-1024) 1024) (53248) (0) none 0 0 s.s0 s.s1)] := HL.out
      obtain ⟨fx, fy, fvx, fvy, fh, fc, ff⟩ := HFQ.out
      have l5 := H5.ldO ty_i32 0 rfl 9 (v := .int .i32 s.q.x) rfl
      go_wp2_with fail
      refine (near_s s.q.x 0 61440 fx (by unfold i32; decide) (by unfold i32; decide) (by decide)).mono ?_
      rintro R w' ⟨rfl, rfl⟩
      obtain ⟨w6, s6, H6, -⟩ := H5.stO ty_i32 2 rfl 9 (.int .i32 (nr s.q.x 0 61440)) (cs' := rcl f s.sd (nr s.p.x 0 61440) (nr s.p.vy (-1024) 1024) (nr s.q.x 0 61440) (0) none 0 0 s.s0 s.s1) rfl (L' := [(w.heap.size, 34, stc s ao cap), (w.heap.size + 1, 34, stc .zero none 0), (g5, 34, rcl f s.sd (nr s.p.x 0 61440) (nr s.p.vy (-1024) 1024) (nr s.q.x 0 61440) (0) none 0 0 s.s0 s.s1)]) rfl (Nat.le_of_ble_eq_true rfl) rfl rfl
      have l6 := H6.ldO ty_i32 0 rfl 12 (v := .int .i32 s.q.vy) rfl
      clear l5 H5 HL
      go_wp2_with fail
      refine (near_s s.q.vy (-1024) 1024 fvy (by unfold i32; decide) (by unfold i32; decide) (by decide)).mono ?_
      rintro R w' ⟨rfl, rfl⟩
      obtain ⟨w7, s7, H7, -⟩ := H6.stO ty_i32 2 rfl 12 (.int .i32 (nr s.q.vy (-1024) 1024)) (cs' := rcl f s.sd (nr s.p.x 0 61440) (nr s.p.vy (-1024) 1024) (nr s.q.x 0 61440) (nr s.q.vy (-1024) 1024) none 0 0 s.s0 s.s1) rfl (L' := [(w.heap.size, 34, stc s ao cap), (w.heap.size + 1, 34, stc .zero none 0), (g5, 34, rcl f s.sd (nr s.p.x 0 61440) (nr s.p.vy (-1024) 1024) (nr s.q.x 0 61440) (nr s.q.vy (-1024) 1024) none 0 0 s.s0 s.s1)]) rfl (Nat.le_of_ble_eq_true rfl) rfl rfl
      have HL7 := Lib.hid H7
      clear l6 H6 H7
      go_wp2
      go_roundw
      case rel => exact ⟨1 + 1, by omega, by first | rfl | go_num, HL7.out⟩
      case measure => simp [intOf]
    · rw [show ((2 : Nat) : Int) = 2 from rfl]
      obtain ⟨px, hpx⟩ : ∃ x, x = nr s.p.x 0 61440 := ⟨_, rfl⟩
      obtain ⟨pv, hpv⟩ : ∃ x, x = nr s.p.vy (-1024) 1024 := ⟨_, rfl⟩
      obtain ⟨qx, hqx⟩ : ∃ x, x = nr s.q.x 0 61440 := ⟨_, rfl⟩
      obtain ⟨qv, hqv⟩ : ∃ x, x = nr s.q.vy (-1024) 1024 := ⟨_, rfl⟩
      have H5 : Hid (Loc w.heap.size w wr [(w.heap.size, 34, stc s ao cap), (w.heap.size + 1, 34, stc .zero none 0), (g5, 34, rcl f s.sd px pv qx qv none 0 0 s.s0 s.s1)]) := by rw [hpx, hpv, hqx, hqv]; exact HL.out
      have HE := Lib.hid (show ∀ (l : List Sh) (n : Nat) ao' cap', l = (s.ss.take 8).map mkr → l.length = n → rcl f s.sd px pv qx qv ao' n cap' s.s0 s.s1 = stc (rgt s f) ao' cap' from fun l n ao' cap' e1 e2 => by rw [hpx, hpv, hqx, hqv, ← e2, e1]; rfl)
      have HR5 : Hid (Shr (g5 + 1) wr [w.heap.size, w.heap.size + 1, g5] none 0 0 []) := Shr.none _ _ _ (fun b hb => by
        simp only [List.mem_cons, List.not_mem_nil, or_false] at hb
        rcases hb with rfl | rfl | rfl
        · exact H5.out.low (e := (w.heap.size, 34, stc s ao cap)) (by simp)
        · exact H5.out.low (e := (w.heap.size + 1, 34, stc .zero none 0)) (by simp)
        · exact H5.out.low (e := (b, 34, rcl f s.sd px pv qx qv none 0 0 s.s0 s.s1)) (by simp))
      clear hpx hpv hqx hqv HL HFP HFQ hk
      go_wp2
      go_loopw [7] (fun iv wr => ∃ (k : Nat) (ao' : Option Addr) (cap' : Nat), k ≤ s.ss.length ∧ k ≤ 8 ∧ iv = .int .i64 (k : Int) ∧ Hid (Loc w.heap.size w wr [(w.heap.size, 34, stc s ao cap), (w.heap.size + 1, 34, stc .zero none 0), (g5, 34, rcl f s.sd px pv qx qv ao' k cap' s.s0 s.s1)]) ∧ Hid (Shr (g5 + 1) wr [w.heap.size, w.heap.size + 1, g5] ao' k cap' ((s.ss.take k).map mkr))) (fun iv _ => s.ss.length - (intOf iv).toNat)
      case atStart => exact ⟨0, none, 0, by omega, by omega, rfl, H5.out, HR5.out⟩
      case round =>
        obtain ⟨k, ao', cap', hk, hk8, rfl, HL, HR⟩ := hrel
        clear H5 HR5
        have l9 := HL.out.ldO ty_shots 0 rfl 16 (v := .slice ao s.ss.length cap) rfl
        by_cases hin : k < s.ss.length ∧ k < 8
        · obtain ⟨hlt, hlt8⟩ := hin
          have hki : (k : Int) < (s.ss.length : Int) := by omega
          have hki8 : (k : Int) < 8 := by omega
          obtain ⟨hfx, b, oo, hao, hc⟩ := (shs_to HS.out HL.out.be) k hlt
          subst hao
          have HTK : Hid ((s.ss.take (k + 1)).map mkr = (s.ss.take k).map mkr ++ [mkr (s.ss[k]'hlt)]) := by show _ = _; rw [List.take_succ_eq_append_getElem hlt, List.map_append]; rfl
          have HBL := Lib.hid (show b < w.heap.size from by
            obtain ⟨_, b2, o2, e2, hc2⟩ := HS.out k hlt
            obtain ⟨rfl, rfl⟩ : b2 = b ∧ o2 = oo := by injection (Option.some.inj e2) with e3 e4; exact ⟨e3.symm, e4.symm⟩
            exact World.block_lt_of_cell? w _ (hc2 0 _ rfl))
          obtain ⟨x, hx⟩ : ∃ x, x = s.ss[k]'hlt := ⟨_, rfl⟩
          rw [← hx] at hfx hc HTK
          obtain ⟨fx, fy, fvx, fvy, fo, fl⟩ := hfx
          obtain ⟨zx, hzx⟩ : ∃ z, z = nr x.x 0 65024 := ⟨_, rfl⟩
          obtain ⟨zv, hzv⟩ : ∃ z, z = nr x.vx (-2048) 2048 := ⟨_, rfl⟩
          obtain ⟨zo, hzo⟩ : ∃ z, z = x.o % 2 := ⟨_, rfl⟩
          obtain ⟨zl, hzl⟩ : ∃ z, z = 1 + x.l % 40 := ⟨_, rfl⟩
          have hmk : mkr x = ⟨zx, 0, zv, 0, zo, zl⟩ := by rw [hzx, hzv, hzo, hzl]; rfl
          rw [hmk] at HTK
          have N0 : Hid (∀ W, Calls Tryz.prog 80 #[.int .i32 x.x, .int .i32 0, .int .i32 65024] W fun E w' => E = .returned (.int .i32 zx) ∧ W = w') := fun W => by rw [hzx]; exact near_c x.x 0 65024 W fx (by unfold i32; decide) (by unfold i32; decide) (by decide)
          have N1 : Hid (∀ W, Calls Tryz.prog 80 #[.int .i32 x.vx, .int .i32 (-2048), .int .i32 2048] W fun E w' => E = .returned (.int .i32 zv) ∧ W = w') := fun W => by rw [hzv]; exact near_c x.vx (-2048) 2048 W fvx (by unfold i32; decide) (by unfold i32; decide) (by decide)
          have ho : ((x.o : Int)).tmod 2 = (zo : Int) := by rw [hzo, Int.tmod_eq_emod_of_nonneg (by omega)]; omega
          have ho2 : ((x.o : Int)) % 2 = (zo : Int) := by omega
          have hl1 : ((x.l : Int)).tmod 40 = ((zl - 1 : Nat) : Int) := by rw [hzl, Int.tmod_eq_emod_of_nonneg (by omega)]; omega
          have hl40 : IntKind.u8.wrap (1 + ((zl - 1 : Nat) : Int)) = (zl : Int) := by simp only [IntKind.wrap, IntKind.bits, IntKind.signed]; simp; omega
          have hl41 : IntKind.u8.wrap (1 + ((x.l : Int)) % 40) = (zl : Int) := by simp only [IntKind.wrap, IntKind.bits, IntKind.signed]; simp; omega
          have hl42 : IntKind.u8.wrap (1 + ((x.l : Int)).tmod 40) = (zl : Int) := by rw [hl1]; exact hl40
          clear hzx hzv hzo hzl hmk fx fy fvx fvy fo fl hx
          go_upto_region 12 with fail
          clear l9
          obtain ⟨wd, hwd⟩ : ∃ wd, wd = wr.drew := ⟨_, rfl⟩
          have HLd := Lib.hid (show Loc w.heap.size w wd [(w.heap.size, 34, stc s (some ⟨b, oo, none⟩) cap), (w.heap.size + 1, 34, stc .zero none 0), (g5, 34, rcl f s.sd px pv qx qv ao' k cap' s.s0 s.s1)] from hwd ▸ HL.out.drew)
          have HRd := Lib.hid (show Shr (g5 + 1) wd [w.heap.size, w.heap.size + 1, g5] ao' k cap' ((s.ss.take k).map mkr) from hwd ▸ HR.out.to (Below.refl _ wr).drew)
          have hcd : ∀ i v, [Value.int .i32 x.x, .int .i32 x.y, .int .i32 x.vx, .int .i32 x.vy, .int .u8 (x.o : Int), .int .u8 (x.l : Int)][i]? = some v → wd.cell? ⟨b, oo + k * 6 + i, none⟩ = some v := fun i v hv => by rw [hwd]; exact hc i v hv
          have C0 := HLd.out.get 0 rfl
          have C2 := HLd.out.get 2 rfl
          have a1 : ∀ W, Stays wd w.heap.size g5 b W → (ldT 31 (.pointer (some ⟨w.heap.size, 16, none⟩))).run Tryz.prog W = .ok (.slice (some ⟨b, oo, none⟩) s.ss.length cap) W := fun W hW => run_ldO ty_shots (hW.1.trans C0) 16 rfl
          have a2 : ∀ W, Stays wd w.heap.size g5 b W → (ldT 31 (.pointer (some ⟨g5, 16, none⟩))).run Tryz.prog W = .ok (.slice ao' k cap') W := fun W hW => run_ldO ty_shots (hW.2.1.trans C2) 16 rfl
          have d0 : ∀ W, Stays wd w.heap.size g5 b W → (ldT 21 (.pointer (some ⟨b, oo + k * 6, none⟩))).run Tryz.prog W = .ok (.int .i32 x.x) W := fun W hW => ld_cell ty_i32 (hW.2.2 _ _ (hcd 0 _ rfl))
          have d2 : ∀ W, Stays wd w.heap.size g5 b W → (ldT 21 (.pointer (some ⟨b, oo + k * 6 + 2, none⟩))).run Tryz.prog W = .ok (.int .i32 x.vx) W := fun W hW => ld_cell ty_i32 (hW.2.2 _ _ (hcd 2 _ rfl))
          have d4 : ∀ W, Stays wd w.heap.size g5 b W → (ldT 5 (.pointer (some ⟨b, oo + k * 6 + 4, none⟩))).run Tryz.prog W = .ok (.int .u8 (x.o : Int)) W := fun W hW => ld_cell ty_u8 (hW.2.2 _ _ (hcd 4 _ rfl))
          have d5 : ∀ W, Stays wd w.heap.size g5 b W → (ldT 5 (.pointer (some ⟨b, oo + k * 6 + 5, none⟩))).run Tryz.prog W = .ok (.int .u8 (x.l : Int)) W := fun W hW => ld_cell ty_u8 (hW.2.2 _ _ (hcd 5 _ rfl))
          have t0 : Stays wd w.heap.size g5 b wd := ⟨rfl, rfl, fun _ _ h => h⟩
          have HKP : Hid (∀ W r, wd.grownBy W r → r ≠ some w.heap.size → r ≠ some g5 → r ≠ some b → Stays wd w.heap.size g5 b W) := fun W r hg h1 h2 h3 => by
            refine ⟨hg.block _ C0.lt h1.symm, hg.block _ C2.lt h2.symm, fun i v hv => ?_⟩
            exact (World.cell?_of_block (hg.block b (World.block_lt_of_cell? wd _ hv) h3.symm)).trans hv
          obtain ⟨i0, hi0, hz0, hz1, hz2⟩ := info_parts info_Shot
          have HI0 := Lib.hid hi0
          have HZ0 := Lib.hid hz0
          have HZ1 := Lib.hid hz1
          have HZ2 := Lib.hid hz2
          have hb1 : k + 1 ≤ maxLen := by simp only [maxLen]; omega
          have hb2 : (k + 1) * 20 ≤ 140737488355328 := by omega
          have HSZ := Lib.hid (show g5 + 1 ≤ wd.heap.size from C2.lt)
          clear hi0 hz0 hz1 hz2 hc hcd HL HR
          refine wp_region_till (S := Stays wd w.heap.size g5 b) (by kernel_rfl) ?_
          rw [← hwd]
          clear hwd
          refine wpTill_take (i := 0) (v := ?vq1) rfl (by kernel_rfl) (fun _ _ _ h => h) (Or.inl ⟨by rfl, ?hq1⟩) t0 ?rq1
          case hq1 => (intro W hW; (try dsimp only at hW); go_simp; try with_reducible rfl)
          simp only [Act.put, List.setIfInBounds_toArray, List.set_cons_zero, List.set_cons_succ, List.getElem_toArray, List.getElem_cons_succ, List.getElem_cons_zero]
          refine wpTill_take (i := 1) (v := ?vq2) rfl (by kernel_rfl) (fun _ _ _ h => h) (Or.inl ⟨by rfl, ?hq2⟩) t0 ?rq2
          case hq2 => (intro W hW; (try dsimp only at hW); go_simp; try with_reducible rfl)
          simp only [Act.put, List.setIfInBounds_toArray, List.set_cons_zero, List.set_cons_succ, List.getElem_toArray, List.getElem_cons_succ, List.getElem_cons_zero]
          refine wpTill_take (i := 2) (v := ?vq3) rfl (by kernel_rfl) (fun _ _ _ h => h) (Or.inl ⟨by rfl, ?hq3⟩) t0 ?rq3
          case hq3 => (intro W hW; (try dsimp only at hW); go_simp; try with_reducible rfl)
          simp only [Act.put, List.setIfInBounds_toArray, List.set_cons_zero, List.set_cons_succ, List.getElem_toArray, List.getElem_cons_succ, List.getElem_cons_zero]
          refine wpTill_take (i := 3) (v := ?vq4) rfl (by kernel_rfl) (fun _ _ _ h => h) (Or.inl ⟨by rfl, ?hq4⟩) t0 ?rq4
          case hq4 => (intro W hW; (try dsimp only at hW); go_simp; try with_reducible rfl)
          simp only [Act.put, List.setIfInBounds_toArray, List.set_cons_zero, List.set_cons_succ, List.getElem_toArray, List.getElem_cons_succ, List.getElem_cons_zero]
          refine wpTill_take (i := 4) (v := ?vq5) rfl (by kernel_rfl) (fun _ _ _ h => h) (Or.inl ⟨by rfl, ?hq5⟩) t0 ?rq5
          case hq5 => (intro W hW; (try dsimp only at hW); go_simp; try with_reducible rfl)
          simp only [Act.put, List.setIfInBounds_toArray, List.set_cons_zero, List.set_cons_succ, List.getElem_toArray, List.getElem_cons_succ, List.getElem_cons_zero]
          refine wpTill_take (i := 5) (v := ?vq6) rfl (by kernel_rfl) (fun _ _ _ h => h) (Or.inl ⟨by rfl, ?hq6⟩) t0 ?rq6
          case hq6 => (intro W hW; (try dsimp only at hW); go_simp; try with_reducible rfl)
          simp only [Act.put, List.setIfInBounds_toArray, List.set_cons_zero, List.set_cons_succ, List.getElem_toArray, List.getElem_cons_succ, List.getElem_cons_zero]
          refine wpTill_take (i := 6) (v := ?vq7) rfl (by kernel_rfl) (fun _ _ _ h => h) (Or.inl ⟨by rfl, ?hq7⟩) t0 ?rq7
          case hq7 => (intro W hW; (try dsimp only at hW); go_simp; try with_reducible rfl)
          simp only [Act.put, List.setIfInBounds_toArray, List.set_cons_zero, List.set_cons_succ, List.getElem_toArray, List.getElem_cons_succ, List.getElem_cons_zero]
          refine wpTill_take (i := 7) (v := ?vq8) rfl (by kernel_rfl) (fun _ _ _ h => h) (Or.inl ⟨by rfl, ?hq8⟩) t0 ?rq8
          case hq8 => (intro W hW; (try dsimp only at hW); go_simp; try with_reducible rfl)
          simp only [Act.put, List.setIfInBounds_toArray, List.set_cons_zero, List.set_cons_succ, List.getElem_toArray, List.getElem_cons_succ, List.getElem_cons_zero]
          refine wpTill_take (i := 9) (v := ?vq9) rfl (by kernel_rfl) (fun _ _ _ h => h) (Or.inl ⟨by rfl, ?hq9⟩) t0 ?rq9
          case hq9 => (intro W hW; (try dsimp only at hW); go_simp; try with_reducible rfl)
          simp only [Act.put, List.setIfInBounds_toArray, List.set_cons_zero, List.set_cons_succ, List.getElem_toArray, List.getElem_cons_succ, List.getElem_cons_zero]
          refine wpTill_take (i := 10) (v := ?vq10) rfl (by kernel_rfl) (fun _ _ _ h => h) (Or.inl ⟨by rfl, ?hq10⟩) t0 ?rq10
          case hq10 => (intro W hW; (try dsimp only at hW); go_simp; try with_reducible rfl)
          simp only [Act.put, List.setIfInBounds_toArray, List.set_cons_zero, List.set_cons_succ, List.getElem_toArray, List.getElem_cons_succ, List.getElem_cons_zero]
          refine wpTill_take (i := 11) (v := ?vq11) rfl (by kernel_rfl) (fun _ _ _ h => h) (Or.inl ⟨by rfl, ?hq11⟩) t0 ?rq11
          case hq11 => (intro W hW; (try dsimp only at hW); go_simp; try with_reducible rfl)
          simp only [Act.put, List.setIfInBounds_toArray, List.set_cons_zero, List.set_cons_succ, List.getElem_toArray, List.getElem_cons_succ, List.getElem_cons_zero]
          refine wpTill_take (i := 12) (v := ?vq12) rfl (by kernel_rfl) (fun _ _ _ h => h) (Or.inl ⟨by rfl, ?hq12⟩) t0 ?rq12
          case hq12 => (intro W hW; (try dsimp only at hW); go_simp; try with_reducible rfl)
          simp only [Act.put, List.setIfInBounds_toArray, List.set_cons_zero, List.set_cons_succ, List.getElem_toArray, List.getElem_cons_succ, List.getElem_cons_zero]
          refine wpTill_take (i := 13) (v := ?vq13) rfl (by kernel_rfl) (fun _ _ _ h => h) (Or.inl ⟨by rfl, ?hq13⟩) t0 ?rq13
          case hq13 => (intro W hW; (try dsimp only at hW); go_simp; try with_reducible rfl)
          simp only [Act.put, List.setIfInBounds_toArray, List.set_cons_zero, List.set_cons_succ, List.getElem_toArray, List.getElem_cons_succ, List.getElem_cons_zero]
          refine wpTill_take (i := 14) (v := ?vq14) rfl (by kernel_rfl) (fun _ _ _ h => h) (Or.inl ⟨by rfl, ?hq14⟩) t0 ?rq14
          case hq14 => (intro W hW; (try dsimp only at hW); go_simp; try with_reducible rfl)
          simp only [Act.put, List.setIfInBounds_toArray, List.set_cons_zero, List.set_cons_succ, List.getElem_toArray, List.getElem_cons_succ, List.getElem_cons_zero]
          refine wpTill_take (i := 16) (v := ?vq15) rfl (by kernel_rfl) (fun _ _ _ h => h) (Or.inl ⟨by rfl, ?hq15⟩) t0 ?rq15
          case hq15 => (intro W hW; (try dsimp only at hW); go_simp; try with_reducible rfl)
          simp only [Act.put, List.setIfInBounds_toArray, List.set_cons_zero, List.set_cons_succ, List.getElem_toArray, List.getElem_cons_succ, List.getElem_cons_zero]
          refine wpTill_take (i := 17) (v := ?vq16) rfl (by kernel_rfl) (fun _ _ _ h => h) (Or.inl ⟨by rfl, ?hq16⟩) t0 ?rq16
          case hq16 => (intro W hW; (try dsimp only at hW); go_simp; try with_reducible rfl)
          simp only [Act.put, List.setIfInBounds_toArray, List.set_cons_zero, List.set_cons_succ, List.getElem_toArray, List.getElem_cons_succ, List.getElem_cons_zero]
          refine wpTill_take (i := 18) (v := ?vq17) rfl (by kernel_rfl) (fun _ _ _ h => h) (Or.inl ⟨by rfl, ?hq17⟩) t0 ?rq17
          case hq17 => (intro W hW; (try dsimp only at hW); go_simp; try with_reducible rfl)
          simp only [Act.put, List.setIfInBounds_toArray, List.set_cons_zero, List.set_cons_succ, List.getElem_toArray, List.getElem_cons_succ, List.getElem_cons_zero]
          refine wpTill_take (i := 19) (v := ?vq18) rfl (by kernel_rfl) (fun _ _ _ h => h) (Or.inl ⟨by rfl, ?hq18⟩) t0 ?rq18
          case hq18 => (intro W hW; (try dsimp only at hW); go_simp; try with_reducible rfl)
          simp only [Act.put, List.setIfInBounds_toArray, List.set_cons_zero, List.set_cons_succ, List.getElem_toArray, List.getElem_cons_succ, List.getElem_cons_zero]
          refine wpTill_take (i := 20) (v := ?vq19) rfl (by kernel_rfl) (fun _ _ _ h => h) (Or.inl ⟨by rfl, ?hq19⟩) t0 ?rq19
          case hq19 => (intro W hW; (try dsimp only at hW); go_simp; try with_reducible rfl)
          simp only [Act.put, List.setIfInBounds_toArray, List.set_cons_zero, List.set_cons_succ, List.getElem_toArray, List.getElem_cons_succ, List.getElem_cons_zero]
          refine wpTill_take (i := 21) (v := ?vq20) rfl (by kernel_rfl) (fun _ _ _ h => h) (Or.inl ⟨by rfl, ?hq20⟩) t0 ?rq20
          case hq20 => (intro W hW; (try dsimp only at hW); go_simp; try with_reducible rfl)
          simp only [Act.put, List.setIfInBounds_toArray, List.set_cons_zero, List.set_cons_succ, List.getElem_toArray, List.getElem_cons_succ, List.getElem_cons_zero]
          refine wpTill_take (i := 22) (v := ?vq21) rfl (by kernel_rfl) (fun _ _ _ h => h) (Or.inl ⟨by rfl, ?hq21⟩) t0 ?rq21
          case hq21 => (intro W hW; (try dsimp only at hW); go_simp; try with_reducible rfl)
          simp only [Act.put, List.setIfInBounds_toArray, List.set_cons_zero, List.set_cons_succ, List.getElem_toArray, List.getElem_cons_succ, List.getElem_cons_zero]
          refine wpTill_take (i := 23) (v := ?vq22) rfl (by kernel_rfl) (fun _ _ _ h => h) (Or.inl ⟨by rfl, ?hq22⟩) t0 ?rq22
          case hq22 => (intro W hW; (try dsimp only at hW); go_simp; try with_reducible rfl)
          simp only [Act.put, List.setIfInBounds_toArray, List.set_cons_zero, List.set_cons_succ, List.getElem_toArray, List.getElem_cons_succ, List.getElem_cons_zero]
          refine wpTill_take (i := 24) (v := ?vq23) rfl (by kernel_rfl) (fun _ _ _ h => h) (Or.inl ⟨by rfl, ?hq23⟩) t0 ?rq23
          case hq23 => (intro W hW; (try dsimp only at hW); go_simp; try with_reducible rfl)
          simp only [Act.put, List.setIfInBounds_toArray, List.set_cons_zero, List.set_cons_succ, List.getElem_toArray, List.getElem_cons_succ, List.getElem_cons_zero]
          refine wpTill_take (i := 25) (v := ?vq24) rfl (by kernel_rfl) (fun _ _ _ h => h) (Or.inl ⟨by rfl, ?hq24⟩) t0 ?rq24
          case hq24 => (intro W hW; (try dsimp only at hW); go_simp; try with_reducible rfl)
          simp only [Act.put, List.setIfInBounds_toArray, List.set_cons_zero, List.set_cons_succ, List.getElem_toArray, List.getElem_cons_succ, List.getElem_cons_zero]
          refine wpTill_take (i := 26) (v := ?vq25) rfl (by kernel_rfl) (fun _ _ _ h => h) (Or.inl ⟨by rfl, ?hq25⟩) t0 ?rq25
          case hq25 => (intro W hW; (try dsimp only at hW); go_simp; try with_reducible rfl)
          simp only [Act.put, List.setIfInBounds_toArray, List.set_cons_zero, List.set_cons_succ, List.getElem_toArray, List.getElem_cons_succ, List.getElem_cons_zero]
          refine wpTill_take (i := 27) (v := ?vq26) rfl (by kernel_rfl) (fun _ _ _ h => h) (Or.inl ⟨by rfl, ?hq26⟩) t0 ?rq26
          case hq26 => (intro W hW; (try dsimp only at hW); go_simp; try with_reducible rfl)
          simp only [Act.put, List.setIfInBounds_toArray, List.set_cons_zero, List.set_cons_succ, List.getElem_toArray, List.getElem_cons_succ, List.getElem_cons_zero]
          refine wpTill_take (i := 28) (v := ?vq27) rfl (by kernel_rfl) (fun _ _ _ h => h) (Or.inl ⟨by rfl, ?hq27⟩) t0 ?rq27
          case hq27 => (intro W hW; (try dsimp only at hW); go_simp; try with_reducible rfl)
          simp only [Act.put, List.setIfInBounds_toArray, List.set_cons_zero, List.set_cons_succ, List.getElem_toArray, List.getElem_cons_succ, List.getElem_cons_zero]
          refine wpTill_take (i := 29) (v := ?vq28) rfl (by kernel_rfl) (fun _ _ _ h => h) (Or.inl ⟨by rfl, ?hq28⟩) t0 ?rq28
          case hq28 => (intro W hW; (try dsimp only at hW); go_simp; try with_reducible rfl)
          simp only [Act.put, List.setIfInBounds_toArray, List.set_cons_zero, List.set_cons_succ, List.getElem_toArray, List.getElem_cons_succ, List.getElem_cons_zero]
          refine wpTill_take (i := 30) (v := ?vq29) rfl (by kernel_rfl) (fun _ _ _ h => h) (Or.inl ⟨by rfl, ?hq29⟩) t0 ?rq29
          case hq29 => (intro W hW; (try dsimp only at hW); go_simp; try with_reducible rfl)
          simp only [Act.put, List.setIfInBounds_toArray, List.set_cons_zero, List.set_cons_succ, List.getElem_toArray, List.getElem_cons_succ, List.getElem_cons_zero]
          refine wpTill_run (i := 8) (by kernel_rfl) rfl t0 (fun K hK => ?_)
          go_simp
          go_at_call 80
          refine (N0.out wd).mono ?_
          rintro E w4 ⟨rfl, rfl⟩
          refine hK _ _ ?_
          clear hK K
          refine wpTill_run (i := 15) (by kernel_rfl) rfl t0 (fun K hK => ?_)
          go_simp
          go_at_call 80
          refine (N1.out wd).mono ?_
          rintro E w4 ⟨rfl, rfl⟩
          refine hK _ _ ?_
          clear hK K
          refine wpTill_take (i := 31) (v := ?vq30) rfl (by kernel_rfl) (fun _ _ _ h => h) (Or.inl ⟨by rfl, ?hq30⟩) t0 ?rq30
          case hq30 => (intro W hW; (try dsimp only at hW); go_simp; try with_reducible rfl)
          simp only [Act.put, List.setIfInBounds_toArray, List.set_cons_zero, List.set_cons_succ, List.getElem_toArray, List.getElem_cons_succ, List.getElem_cons_zero]
          refine wpTill_run (i := 32) (by kernel_rfl) rfl t0 (fun K hK => ?_)
          go_simp
          refine hK _ _ ?_
          clear hK K
          have t1 := HKP.out (wd.alloc (.cells #[.int .i32 zx, .int .i32 0, .int .i32 zv, .int .i32 0, .int .u8 (zo : Int), .int .u8 (zl : Int)] 98)) none (grown_alloc _ _) (by simp) (by simp) (by simp)
          refine wpTill_run (i := 33) (by kernel_rfl) rfl t1 (fun K hK => ?_)
          refine step_append_lies _ rfl (.tmp 52) (.tmp 83) 31 rfl (g5 + 1) 98 i0 (.agg #[.int .i32 0, .int .i32 0, .int .i32 0, .int .i32 0, .int .u8 0, .int .u8 0]) 6 20 Tryz.underlying31 HI0.out HZ0.out HZ1.out HZ2.out rfl (by decide) _ _ _ (by simp [Act.eval]) (World.ownsRow.alloc HRd.out.own _) ⟨wd.heap.size, 0, none⟩ 1 1 (Hcs ⟨zx, 0, zv, 0, zo, zl⟩) (by simp [Act.eval]) rfl (World.news_of_block (heap_alloc_new _ _)) (by simp [Hcs, Value.oneCell']) (by decide) hb1 hb2 (by have h9 := HSZ.out; simp at h9 ⊢; omega) _ rfl ?_
          intro g' cap2 w6 hown1 hgr hat hlt1
          have hgx : wd.grownBy w6 (Value.slice ao' k cap').ownBlock := ((World.grownBy_alloc wd _ _)).trans hgr
          have hfar := HRd.out.far
          have t2 := HKP.out w6 _ hgx (hfar _ (by simp)) (hfar _ (by simp)) (fun e => by have h1 := (HRd.out.own.lt b e).1; have h2 := HBL.out; have h3 := HG5.out; omega)
          have H6 : Loc w.heap.size w w6 [(w.heap.size, 34, stc s (some ⟨b, oo, none⟩) cap), (w.heap.size + 1, 34, stc .zero none 0), (g5, 34, rcl f s.sd px pv qx qv ao' k cap' s.s0 s.s1)] := HLd.out.own (HRd.out.low (B' := w.heap.size) (by have := HG5.out; omega)) (fun e he => by
            simp only [List.mem_cons, List.not_mem_nil, or_false] at he ⊢
            rcases he with rfl | rfl | rfl <;> simp) hgx
          obtain ⟨w7, s7, H7, q7⟩ := H6.stO ty_shots 2 rfl 16 (.slice (some ⟨g', 0, none⟩) (k + 1) cap2) (cs' := rcl f s.sd px pv qx qv (some ⟨g', 0, none⟩) (k + 1) cap2 s.s0 s.s1) rfl (L' := [(w.heap.size, 34, stc s (some ⟨b, oo, none⟩) cap), (w.heap.size + 1, 34, stc .zero none 0), (g5, 34, rcl f s.sd px pv qx qv (some ⟨g', 0, none⟩) (k + 1) cap2 s.s0 s.s1)]) rfl (Nat.le_of_ble_eq_true rfl) rfl rfl
          have HL7 := Lib.hid H7
          have HR6 : Shr (g5 + 1) w6 [w.heap.size, w.heap.size + 1, g5] (some ⟨g', 0, none⟩) (k + 1) cap2 ((s.ss.take (k + 1)).map mkr) := by
            rw [HTK.out]
            refine ⟨by rw [Hall_snoc]; exact hown1, by rw [List.length_append, HRd.out.len]; rfl, fun b2 hb2 e => ?_, fun b2 hb2 => Nat.lt_of_lt_of_le (HRd.out.lo b2 hb2) hgx.size, fun e => by cases e⟩
            have h1 := (hown1.lt b2 e).1
            have h3 := HG5.out
            simp only [List.mem_cons, List.not_mem_nil, or_false] at hb2
            rcases hb2 with rfl | rfl | rfl <;> omega
          have HR7 := Lib.hid (HR6.turn (by simp) q7)
          clear H6 H7 q7 HR6 hgr hgx hat hlt1 hown1 hfar HKP t1 t0
          refine hK _ _ ?_
          clear hK K
          refine wpTill_take (i := 34) (v := ?vq31) rfl (by kernel_rfl) (fun _ _ _ h => h) (Or.inl ⟨by rfl, ?hq31⟩) t2 ?rq31
          case hq31 => (intro W hW; (try dsimp only at hW); go_simp; try with_reducible rfl)
          simp only [Act.put, List.setIfInBounds_toArray, List.set_cons_zero, List.set_cons_succ, List.getElem_toArray, List.getElem_cons_succ, List.getElem_cons_zero]
          refine wpTill_run (i := 35) (by kernel_rfl) rfl t2 (fun K hK => ?_)
          go_simp
          refine hK _ _ ?_
          clear hK K
          refine wpTill_done (by kernel_rfl) ?_
          clear a1 a2 d0 d2 d4 d5 t2 s7 N0 N1 HLd HRd C0 C2
          go_wp2
          go_roundw
          case rel => exact ⟨k + 1, some ⟨g', 0, none⟩, cap2, by omega, by omega, by go_num, HL7.out, HR7.out⟩
          case measure => simp [intOf]; omega
        · have HX := Lib.hid (show (s.ss.take k).map mkr = (s.ss.take 8).map mkr from by
            congr 1
            rcases Nat.lt_or_ge k 8 with h8 | h8
            · have hke : k = s.ss.length := by omega
              rw [List.take_of_length_le (by omega), List.take_of_length_le (by omega)]
            · have : k = 8 := by omega
              rw [this])
          have HSH := Lib.hid (HR.out.shs (fun x hx => by obtain ⟨y, _, rfl⟩ := List.mem_map.1 hx; exact (mkr_good y).2))
          have hcl := HE.out _ k ao' cap' HX.out HR.out.len
          have H9 : Loc w.heap.size w wr [(w.heap.size, 34, stc s ao cap), (w.heap.size + 1, 34, stc .zero none 0), (g5, 34, stc (rgt s f) ao' cap')] := by rw [← hcl]; exact HL.out
          have HAO := Lib.hid (show ∀ a, ao' = some a → g5 + 1 ≤ a.block from fun a e => (HR.out.own.lt a.block (by rw [e]; rfl)).1)
          have l11 := H9.ldA ty_state 2 rfl 0 (vs := stc (rgt s f) ao' cap') rfl (Nat.le_of_ble_eq_true rfl)
          obtain ⟨w10, s10, H10, q10⟩ := H9.stA ty_state 1 rfl 0 (stc (rgt s f) ao' cap') (cs' := stc (rgt s f) ao' cap') rfl (L' := [(w.heap.size, 34, stc s ao cap), (w.heap.size + 1, 34, stc (rgt s f) ao' cap'), (g5, 34, stc (rgt s f) ao' cap')]) rfl (Nat.le_of_ble_eq_true rfl) rfl rfl
          have H10' := Lib.hid H10
          have HSH10 := Lib.hid (show Shs w10 ao' (rgt s f).ss from by
            have h1 : Shs wr ao' (rgt s f).ss := by show Shs wr ao' ((s.ss.take 8).map mkr); rw [← HX.out]; exact HSH.out
            exact shs_turn h1 q10 (fun a e _ => by have h2 := HAO.out a e; have h3 := HG5.out; omega))
          have HFIN := Lib.hid (show Q (.returned (sv (rgt s f) ao' cap')) w10 from by
            rw [HQ.out]
            exact ⟨ao', cap', rfl, HSH10.out, fun a e _ => by have h2 := HAO.out a e; have h3 := HG5.out; omega, H10'.out.be⟩)
          obtain ⟨T, hT⟩ : ∃ T, T = rgt s f := ⟨_, rfl⟩
          rw [← hT] at l11 s10 H10' HFIN
          clear H9 H10 q10 HX HSH HL HR HE hT hcl HSH10 HQ
          by_cases hlt : k < s.ss.length
          · have hki : (k : Int) < (s.ss.length : Int) := by omega
            have hki8 : ¬ (k : Int) < 8 := by omega
            go_wp2
            refine bodyPost_ret (ret_state _ 4 _ Tryz.results30 (H10'.out.get 1 rfl) rfl rfl) rfl ?_
            exact HFIN.out
          · have hki : ¬ (k : Int) < (s.ss.length : Int) := by omega
            go_wp2
            refine bodyPost_ret (ret_state _ 4 _ Tryz.results30 (H10'.out.get 1 rfl) rfl rfl) rfl ?_
            exact HFIN.out
end Go.Proofs.YtacgmadgkmcmoaaGreatDoor
