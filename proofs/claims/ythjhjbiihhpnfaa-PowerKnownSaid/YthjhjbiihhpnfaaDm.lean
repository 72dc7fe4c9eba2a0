/- The names of a disk's files, sorted, and its range function: what it hands back; it goes through the files in the order of their names, for every loop's body that keeps the disk's struct and map. -/
import Derived.RangeFuncNested
import Derived.RangeFuncBound
import Derived.RangeFuncCalls
import Derived.RangeFuncLeaves
import Derived.RangeFuncBox
import Derived.Shelf.Abstract
import Derived.Shelf.AbstractIn
import Derived.Shelf.RegionOpen
import Derived.WalkKit
import Derived.OwnWalkIn
import Derived.TacticsInMore
import Derived.LoopNIn
import Derived.LoopIn
import Derived.Maps.AppendAt
import Derived.Test.YthjhjbiihhpnfaaDl
import Derived.Test.YthjhjbiihhpnfaaDd
namespace Go.Proofs.Ythjhjbiihhpnfaa
open Go.RowKit Go.Shelf Go.Maps Go.Sort
set_option linter.unusedVariables false
set_option maxRecDepth 100000
attribute [local go_sem] Oper.semAt_some

theorem sortsA (m : Nat) : AnyZ.SortsIn Try.prog Try.sortedA_ren Fence.wide m :=
  ⟨fun blk off cap ss W hH hblk hsz => callsIn_wide.2 (AnyM.slices_Sort_string Try.sortA blk off cap ss W hH hblk hsz),
   fun p cap W => callsIn_wide.2 (AnyM.slices_Sort_string_none Try.sortA p cap W)⟩
theorem keys_c (n : Nat) (mb : Option Nat) (W : World) : CallsIn Fence.wide n Try.prog 49 #[.map mb] W fun e w' => e = .returned (.func (.func 58) #[] #[.pointer (some ⟨W.heap.size, 0, none⟩)]) ∧ w' = W.alloc (.cells #[.map mb] 55) :=
  AnyZ.keys_in Try.keysA Fence.wide n trivial rfl mb W
/-- slices.Sorted of what maps.Keys handed back. -/
theorem sorted_c (n b : Nat) (fs : List Fil) (hn : 4 ≤ n) (w : World) (hown : w.ownsMap Try.prog 9 Rf b fs.length (dmap fs)) (hs : Srt Fil.nm fs) (hl : fs.length ≤ 1000) :
    CallsIn Fence.wide n Try.prog 48 #[.func (.func 58) #[] #[.pointer (some ⟨w.heap.size, 0, none⟩)]] (w.alloc (.cells #[.map (some b)] 55)) fun e w' =>
      ∃ (v : Value), e = .returned v ∧ w'.ownsRow 0 9 1 v fs.length (fs.map fun f => .string (str f.nm)) ∧ (v = .slice none 0 0 ↔ fs = []) ∧ Below w.heap.size w w' ∧ ∀ x, v.ownBlock = some x → w.heap.size ≤ x := by
  have hbl := hown.lt
  have hseq : SeqGives Fence.wide (n - 1 - 1 - 1) Try.prog 58 #[.pointer (some ⟨w.heap.size, 0, none⟩)] encStr (fun ss => ss.Perm (strKeys (dmap fs))) (Maps.size (dmap fs)) (w.alloc (.cells #[.map (some b)] 55)) :=
    AnyZ.keys_gives (ρ := Try.keysA_ren) { Try.keysA with } Fence.wide _ trivial rfl (by omega) w.heap.size b fs.length (dmap fs) _ (by simp) (by simp) (by
      obtain ⟨es, clock, hb, Ft, hs, hD⟩ := hown
      exact ⟨es, clock, (Below.heap_alloc _ _ b hbl).trans hb, Ft, hs, hD⟩)
  have cS := AnyZ.sorted_in Try.sortedA Fence.wide n trivial trivial trivial trivial rfl (by omega) (sortsA _) (enters_of Try.func57 (by kernel_rfl) rfl) 58 #[.pointer (some ⟨w.heap.size, 0, none⟩)] trivial (enters_of Try.func58 (by kernel_rfl) rfl) _ _ (by rw [dat_size]; unfold maxLen; omega) (by rw [dat_size]; omega) _ hseq
  refine CallsIn.mono cS ?_
  rintro e w' ⟨v, ss, rfl, hS, hrow, hnil, hb⟩
  rw [dat_keys] at hS
  have hss := srt_perm_keys hs hS
  have hlen : ss.length = fs.length := by rw [hS.length_eq, List.length_map]
  rw [hss, hlen, List.map_map] at hrow
  refine ⟨v, rfl, ownsRow_base_a hrow (Nat.zero_le _), ?_, (below_alloc w _).trans (hb.mono (by simp)), fun x hx => ?_⟩
  · rw [hnil]
    constructor
    · rintro rfl; exact List.length_eq_zero_iff.1 hlen.symm
    · rintro rfl; exact List.length_eq_zero_iff.1 hlen
  · have := (hrow.lt x hx).1
    simp at this
    omega
theorem sorted_none (n : Nat) (hn : 4 ≤ n) (w : World) :
    CallsIn Fence.wide n Try.prog 48 #[.func (.func 58) #[] #[.pointer (some ⟨w.heap.size, 0, none⟩)]] (w.alloc (.cells #[.map none] 55)) fun e w' =>
      e = .returned (.slice none 0 0) ∧ Below w.heap.size w w' := by
  have hseq : SeqGives Fence.wide (n - 1 - 1 - 1) Try.prog 58 #[.pointer (some ⟨w.heap.size, 0, none⟩)] encStr (fun ss : List (List UInt8) => ss = []) 0 (w.alloc (.cells #[.map none] 55)) :=
    AnyZ.keys_gives_nil (ρ := Try.keysA_ren) { Try.keysA with } Fence.wide _ trivial rfl w.heap.size _ (by simp) (by simp)
  have cS := AnyZ.sorted_in Try.sortedA Fence.wide n trivial trivial trivial trivial rfl (by omega) (sortsA _) (enters_of Try.func57 (by kernel_rfl) rfl) 58 #[.pointer (some ⟨w.heap.size, 0, none⟩)] trivial (enters_of Try.func58 (by kernel_rfl) rfl) _ 0 (Nat.zero_le _) (by omega) _ hseq
  refine CallsIn.mono cS ?_
  rintro e w' ⟨v, ss, rfl, rfl, hrow, hnil, hb⟩
  obtain rfl : v = .slice none 0 0 := hnil.2 rfl
  exact ⟨rfl, (below_alloc w _).trans (hb.mono (by simp))⟩
theorem inOrder_c (p : Option Addr) (w : World) :
    Calls Try.prog 37 #[.pointer p] w fun E w' => E = .returned (.func (.func 47) #[] #[.pointer (some ⟨w.heap.size, 0, none⟩)]) ∧ w.alloc (.cells #[.pointer p] 22) = w' := by
  go_enter Try.func37, Try.ntmps37
  go_wp2
  go_ret
  exact ⟨rfl, rfl⟩
/-- What a loop over the disk is handed. -/
abbrev Itm (fs : List Fil) := { f : Fil // f ∈ fs }
abbrev encI {fs : List Fil} (x : Itm fs) : Array Value := #[.string (str x.1.nm), .pointer (some ⟨x.1.g, 0, none⟩)]
/-- A row from n₀ on that the slice in the loop's own variable bx does not lead to. -/
def Safe (n₀ bx : Nat) (W : World) (x : Nat) (t : TypeId) (cs : Array Value) : Prop :=
  n₀ ≤ x ∧ Cells W x t cs ∧ ∀ a n c, W.cell? ⟨bx, 0, none⟩ = some (.slice (some a) n c) → a.block ≠ x
/-- What a round keeps: the disk's struct and map, the range function's variable, and whatever row of others lies from n₀ on. -/
structure Kq (gd m Bn n₀ bx : Nat) (W W' : World) : Prop where
  size : W.heap.size ≤ W'.heap.size
  one : W'.heap[gd]? = W.heap[gd]?
  two : W'.heap[m]? = W.heap[m]?
  box : W'.heap[Bn]? = W.heap[Bn]?
  row : ∀ x t cs, Safe n₀ bx W x t cs → Safe n₀ bx W' x t cs
section
variable {gd m Bn n₀ bx : Nat} {W W' W'' : World}
theorem Kq.trans (h : Kq gd m Bn n₀ bx W W') (k : Kq gd m Bn n₀ bx W' W'') : Kq gd m Bn n₀ bx W W'' :=
  ⟨Nat.le_trans h.size k.size, k.one.trans h.one, k.two.trans h.two, k.box.trans h.box, fun x t cs hx => k.row x t cs (h.row x t cs hx)⟩
theorem Kq.put {w : World} (hg : gd < w.heap.size) (hm : m < w.heap.size) (hB : Bn < w.heap.size) (hx : bx < w.heap.size) (W : World) (l : Nat) (o o' : Obj) (hl : w.heap.size ≤ l) (h : W.heap[l]? = some o) (hc : o.isCells = false) (_ : o.isWalk = false) : Kq gd m Bn n₀ bx W (W.putObj l o') := by
  have hlt : l < W.heap.size := (Array.getElem?_eq_some_iff.1 h).1
  refine ⟨(grownBy_putObj' W l o').size, World.putObj_heap_other (by omega), World.putObj_heap_other (by omega), World.putObj_heap_other (by omega), fun x t cs hx => ?_⟩
  obtain ⟨h1, h2, h3⟩ := hx
  have hne : x ≠ l := by rintro rfl; unfold Cells at h2; rw [h2] at h; cases h; cases hc
  refine ⟨h1, (World.putObj_heap_other hne).trans h2, fun a n c ha => h3 a n c ?_⟩
  rw [← ha]
  exact (World.cell?_of_block (World.putObj_heap_other (show (⟨bx, 0, none⟩ : Addr).block ≠ l by show bx ≠ l; omega))).symm
theorem Kq.of_tu {S : Nat → Prop} (h : Tu S W W') (hg : gd < W.heap.size) (hm : m < W.heap.size) (hB : Bn < W.heap.size) (h1 : ¬ S gd) (h2 : ¬ S m) (h3 : ¬ S Bn)
    (h4 : ∀ x t cs, Safe n₀ bx W x t cs → ¬ S x ∧ ∀ a n c, W'.cell? ⟨bx, 0, none⟩ = some (.slice (some a) n c) → a.block ≠ x) : Kq gd m Bn n₀ bx W W' :=
  ⟨h.size, h.block _ hg h1, h.block _ hm h2, h.block _ hB h3, fun x t cs hx => ⟨hx.1, hx.2.1.tu h (h4 x t cs hx).1, (h4 x t cs hx).2⟩⟩
end
/-- The disk as the range function needs it. -/
structure Dn (w : World) (gd m q : Nat) (fs : List Fil) : Prop where
  blk : Cells w gd 57 #[.int .i64 q, .map (some m)]
  map : w.ownsMap Try.prog 9 Rf m fs.length (dmap fs)
theorem Dj.dn {w : World} {gd m q : Nat} {fs : List Fil} (h : Dj w gd m q fs) : Dn w gd m q fs := ⟨h.blk, h.map⟩
section
variable {gd m q Bn n₀ : Nat} {W W' : World} {fs : List Fil}
theorem Dn.kept {bx : Nat} (h : Dn W gd m q fs) (k : Kq gd m Bn n₀ bx W W') : Dn W' gd m q fs := by
  refine ⟨k.one.trans h.blk, ?_⟩
  obtain ⟨es, clock, hb, r⟩ := h.map
  exact ⟨es, clock, k.two.trans hb, r⟩
theorem Dn.below {B : Nat} (h : Dn W gd m q fs) (k : Below B W W') (hg : gd < B) (hm : m < B) : Dn W' gd m q fs := by
  refine ⟨h.blk.below k hg, ?_⟩
  obtain ⟨es, clock, hb, r⟩ := h.map
  exact ⟨es, clock, (k.block m hm).trans hb, r⟩
theorem Dn.look (h : Dn W gd m q fs) (n : List UInt8) (hn : n.length ≤ maxLen) :
    (Instr.lookup 55 (.map (some m)) (.string (str n)) false).run Try.prog W = .ok (.pointer ((fndK Fil.nm n fs).map fun f => ⟨f.g, 0, none⟩)) W := by
  have hz : (zeroValue 62).run Try.prog W = .ok (.pointer none) W := by simp [Try.zeroValue62]
  obtain ⟨v, ps, hr, hv⟩ := h.map.lookup key_str Try.underlying55 hz (zd := .nil) (zp := []) rfl (key_of n hn)
  rw [dat_at] at hv
  rw [hr]
  cases hf : fndK Fil.nm n fs with
  | none => rw [hf] at hv; rw [Rf_nil hv]; rfl
  | some f => rw [hf] at hv; rw [Rf_ptr hv]; rfl
end
theorem grown_none {w w' : World} (h : Below w.heap.size w w') : w.grownBy w' none := ⟨h.os, h.tape, h.output, h.size, fun k hk _ => h.block k hk⟩
/-- A round of the range function, at its head. -/
def InRel (gd m q Bn n₀ bx : Nat) (fs : List Fil) (vs : Value) (J : List (Itm fs) → World → Prop) (i : Value) (wr : World) : Prop :=
  ∃ (pre : List (Itm fs)) (k : Nat), i = .int .i64 k ∧ k ≤ fs.length ∧ pre.map Subtype.val = fs.take k ∧ Dn wr gd m q fs ∧ Cells wr Bn 22 #[.pointer (some ⟨gd, 0, none⟩)] ∧
    (∀ b, vs.ownBlock = some b → ∃ cs, Safe n₀ bx wr b 9 cs ∧ ∀ j (h : j < fs.length), cs[j]? = some (.string (str (fs[j]'h).nm))) ∧ J pre wr

theorem row_form {w : World} {base : Nat} {e : TypeId} {size n : Nat} {v : Value} {xs : List Value} (h : w.ownsRow base e size v n xs) : ∃ ao cap, v = .slice ao n cap ∧ n ≤ cap := by
  rcases h.2 with ⟨rfl, h0⟩ | ⟨g, cap, cur, rfl, _, _, hn, _⟩
  · exact ⟨none, 0, by rw [h0], by omega⟩
  · exact ⟨_, cap, rfl, hn⟩
theorem row_cells {w : World} {base : Nat} {e : TypeId} {n : Nat} {v : Value} {xs : List Value} (h : w.ownsRow base e 1 v n xs) {b : Nat} (hb : v.ownBlock = some b) : ∃ cs : Array Value, Cells w b e cs ∧ ∀ (j : Nat) (u : Value), xs[j]? = some u → cs[j]? = some u := by
  rcases h.2 with ⟨rfl, _⟩ | ⟨g, cap, cur, rfl, _, hg, _, _, _, ht⟩
  · simp [Value.ownBlock] at hb
  · obtain rfl : g = b := by simpa [Value.ownBlock] using hb
    refine ⟨cur, hg, fun j u hu => ?_⟩
    rw [← ht, List.getElem?_take] at hu
    split at hu
    · simpa using hu
    · cases hu
set_option maxHeartbeats 2000000 in
theorem inOrder1_in (n : Nat) (hn : 6 ≤ n) (l0 gd m q Bn n₀ bx : Nat) (fs : List Fil) (hs : Srt Fil.nm fs) (hfl : fs.length ≤ 1000) (hnl : ∀ f ∈ fs, f.nm.length ≤ 1000) (J Jx : List (Itm fs) → World → Prop)
    (W : World) (hJ : AbidesFrom W.heap.size J) (hn₀ : n₀ ≤ W.heap.size) (hbx : bx < W.heap.size) (hbn : ∀ a n c, W.cell? ⟨bx, 0, none⟩ = some (.slice (some a) n c) → a.block < n₀)
    (hY : ∀ pre x W, J pre W → pre.length < fs.length → YieldAt Fence.wide (n - 1) Try.prog l0 (encI x) W fun e W' =>
      (e = .returned (.bool true) ∧ J (pre ++ [x]) W' ∧ Kq gd m Bn n₀ bx W W') ∨ (e = .returned (.bool false) ∧ Jx (pre ++ [x]) W'))
    (hd : Dn W gd m q fs) (hg : gd < W.heap.size) (hm : m < W.heap.size) (hB : Cells W Bn 22 #[.pointer (some ⟨gd, 0, none⟩)]) (h0 : J [] W) :
    CallsIn Fence.wide n Try.prog 47 #[.func (.yield l0) #[] #[], .pointer (some ⟨Bn, 0, none⟩)] W fun e W' => (∃ v, e = .returned v) ∧
      ((∃ ys, ys.map Subtype.val = fs ∧ J ys W') ∨ (∃ pre, pre.map Subtype.val <+: fs ∧ Jx pre W')) := by
  have HJ := Lib.hid hJ
  have HY := Lib.hid hY
  have H0 := Lib.hid h0
  have HD := Lib.hid hd
  have HS := Lib.hid hs
  have HB := Lib.hid hB
  have HNL := Lib.hid hnl
  have c1 : W.cell? ⟨gd, 1, none⟩ = some (.map (some m)) := by rw [hd.blk.cell]; rfl
  have c0 : W.cell? ⟨Bn, 0, none⟩ = some (.pointer (some ⟨gd, 0, none⟩)) := by rw [hB.cell]; rfl
  have cK := keys_c (n - 1) (some m) W
  have cS := sorted_c (n - 1) m fs (by omega) W hd.map hs hfl
  have hBl := hB.lt
  clear hJ hY h0 hd hs hB hnl
  have h1n : 1 ≤ n := by omega
  have hfK : Fence.wide.fn 49 := trivial
  have hfS : Fence.wide.fn 48 := trivial
  refine callsIn_of_wp Try.func47 rfl trivial ?_ rfl
  simp only [Try.ntmps47, List.size_toArray, List.length_cons, List.length_nil, Nat.reduceAdd, Nat.reduceSub, Array.replicate_succ, Array.replicate_zero, List.push_toArray, List.append_toArray, List.nil_append, List.cons_append]
  gi_wp2_with (first
    | (gi_at_call 49; refine cK.mono ?_; rintro e w' ⟨rfl, rfl⟩)
    | (gi_at_call 48; refine cS.mono ?_; rintro e w2 ⟨v, rfl, hrow, hnil, hb, hown⟩; obtain ⟨ao, cap, rfl, hcap⟩ := row_form hrow))
  have HR := Lib.hid (show ∀ b, (Value.slice ao fs.length cap).ownBlock = some b → ∃ cs, Safe n₀ bx w2 b 9 cs ∧ ∀ j (h : j < fs.length), cs[j]? = some (.string (str (fs[j]'h).nm)) from fun b hbb => by
    obtain ⟨cs, h1, h2⟩ := row_cells hrow hbb
    have hge := hown b hbb
    refine ⟨cs, ⟨Nat.le_trans hn₀ hge, h1, fun a n c ha => ?_⟩, fun j hj => h2 j _ (by simp [hj])⟩
    rw [hb.cell (p := ⟨bx, 0, none⟩) hbx] at ha
    have := hbn a n c ha
    omega)
  have HA := Lib.hid (show fs = [] ∨ ∃ g, ao = some ⟨g, 0, none⟩ from by
    rcases hrow.2 with ⟨he, h0⟩ | ⟨g, _, _, he, _⟩
    · exact .inl (List.length_eq_zero_iff.1 h0)
    · injection he with e1; exact .inr ⟨g, e1⟩)
  have HO := Lib.hid hown
  have HD2 := Lib.hid (HD.out.below hb hg hm)
  have HB2 := Lib.hid (HB.out.below hb hBl)
  have HJ2 := Lib.hid (HJ.out [] W w2 none H0.out (grown_none hb) (fun r e => by cases e))
  clear hrow hnil hown hb cK cS c0 c1
  gi_loopw [14] (fun i wr => InRel gd m q Bn n₀ bx fs (.slice ao fs.length cap) J i wr) (fun i _ => fs.length - (intOf i).toNat)
  case atStart => exact ⟨[], 0, rfl, Nat.zero_le _, rfl, HD2.out, HB2.out, HR.out, HJ2.out⟩
  case round =>
    obtain ⟨pre, k, rfl, hk, hpre, hd, hB, hr, hJs⟩ := hrel
    have HPRE := Lib.hid hpre
    have HD3 := Lib.hid hd
    have HB3 := Lib.hid hB
    have HR3 := Lib.hid hr
    have HJ3 := Lib.hid hJs
    clear hpre hr hJs
    by_cases hlt : k < fs.length
    · obtain ⟨b, rfl⟩ : ∃ g, ao = some ⟨g, 0, none⟩ := by
        rcases HA.out with h | h
        · subst h; cases hlt
        · exact h
      obtain ⟨cs, hcs, hj⟩ := HR3.out b rfl
      obtain ⟨x, hx⟩ : ∃ x : Itm fs, x.1 = fs[k]'hlt := ⟨⟨_, List.getElem_mem hlt⟩, rfl⟩
      have hcell : wr.cell? ⟨b, k, none⟩ = some (.string (str x.1.nm)) := by rw [hcs.2.1.cell, hx]; exact hj k hlt
      have hlk := hd.look x.1.nm (by have := HNL.out _ x.2; unfold maxLen; omega)
      rw [fndK_of_mem HS.out x.2] at hlk
      simp only [Option.map_some] at hlk
      have c1 : wr.cell? ⟨gd, 1, none⟩ = some (.map (some m)) := by rw [hd.blk.cell]; rfl
      have c0 : wr.cell? ⟨Bn, 0, none⟩ = some (.pointer (some ⟨gd, 0, none⟩)) := by rw [hB.cell]; rfl
      have hplen : pre.length < fs.length := by have := congrArg List.length HPRE.out; simp at this; omega
      have HPN : Hid ((pre ++ [x]).map Subtype.val = fs.take (k + 1)) := by
        show _ = _
        rw [List.map_append, HPRE.out, List.take_succ_eq_append_getElem hlt, ← hx]; rfl
      obtain ⟨fn0, tmps, assign, body, hy, hR⟩ := HY.out pre x wr HJ3.out hplen
      have HCS := Lib.hid hcs
      have HJJ := Lib.hid hj
      clear hd hB hcs hj hplen hx
      dsimp only [encI] at hy
      gi_wp2
      refine hR.mono ?_
      rintro E w3 (⟨rfl, hJ4, hk4⟩ | ⟨rfl, hJx4⟩)
      · have HK4 := Lib.hid hk4
        have HJ4 := Lib.hid hJ4
        clear hk4 hJ4
        gi_wp2
        go_roundw
        case rel => exact ⟨_, k + 1, by go_num, by omega, HPN.out, HD3.out.kept HK4.out, HK4.out.box.trans HB3.out, fun b' hb' => by cases hb'; exact ⟨cs, HK4.out.row b _ cs HCS.out, HJJ.out⟩, HJ4.out⟩
        case measure => simp [intOf]; omega
      · gi_wp2
        refine bodyPost_ret (results_none rfl _ _ _) rfl ?_
        exact ⟨⟨_, rfl⟩, .inr ⟨_, by rw [HPN.out]; exact List.take_prefix _ _, hJx4⟩⟩
    · have hx : k = fs.length := by omega
      have HX := Lib.hid hx
      clear hx
      gi_wp2
      go_end0
      exact ⟨⟨_, rfl⟩, .inl ⟨pre, by rw [HPRE.out, HX.out, List.take_length], HJ3.out⟩⟩
theorem inOrder1_nil (n : Nat) (hn : 6 ≤ n) (l0 Bn : Nat) (v : Value) (J : List (Itm []) → World → Prop) (W : World) (hJ : AbidesFrom W.heap.size J) (hv : NilD W v)
    (hB : Cells W Bn 22 #[v]) (h0 : J [] W) :
    CallsIn Fence.wide n Try.prog 47 #[.func (.yield l0) #[] #[], .pointer (some ⟨Bn, 0, none⟩)] W fun e W' => (∃ v, e = .returned v) ∧ J [] W' := by
  have HJ := Lib.hid hJ
  have H0 := Lib.hid h0
  have c0 : W.cell? ⟨Bn, 0, none⟩ = some v := by rw [hB.cell]; rfl
  have hBl := hB.lt
  clear hJ h0 hB
  have h1n : 1 ≤ n := by omega
  have hfK : Fence.wide.fn 49 := trivial
  have hfS : Fence.wide.fn 48 := trivial
  refine callsIn_of_wp Try.func47 rfl trivial ?_ rfl
  simp only [Try.ntmps47, List.size_toArray, List.length_cons, List.length_nil, Nat.reduceAdd, Nat.reduceSub, Array.replicate_succ, Array.replicate_zero, List.push_toArray, List.append_toArray, List.nil_append, List.cons_append]
  rcases hv with rfl | ⟨g, q, rfl, hc⟩
  · gi_wp2
    refine bodyPost_ret (results_none rfl _ _ _) rfl ?_
    exact ⟨⟨_, rfl⟩, H0.out⟩
  · have c1 : W.cell? ⟨g, 1, none⟩ = some (.map none) := by rw [hc.cell]; rfl
    have cK := keys_c (n - 1) none W
    have cS := sorted_none (n - 1) (by omega) W
    clear hc
    gi_wp2_with (first
      | (gi_at_call 49; refine cK.mono ?_; rintro e w' ⟨rfl, rfl⟩)
      | (gi_at_call 48; refine cS.mono ?_; rintro e w2 ⟨rfl, hb⟩))
    have HJ2 := Lib.hid (HJ.out [] W w2 none H0.out (grown_none hb) (fun r e => by cases e))
    clear hb cK cS c0 c1
    gi_loopw [14] (fun i wr => i = .int .i64 0 ∧ J [] wr) (fun i _ => 0)
    case atStart => exact ⟨rfl, HJ2.out⟩
    case round =>
      obtain ⟨rfl, hj⟩ := hrel
      have HJJ := Lib.hid hj
      clear hj
      gi_wp2
      go_end0
      exact ⟨⟨_, rfl⟩, HJJ.out⟩
/-- The range function, for the law of a range over a function. -/
theorem inOrder_stops (n : Nat) (hn : 6 ≤ n) (gd m q Bn n₀ bx : Nat) (fs : List Fil) (hs : Srt Fil.nm fs) (hfl : fs.length ≤ 1000) (hnl : ∀ f ∈ fs, f.nm.length ≤ 1000)
    (w : World) (hn₀ : n₀ ≤ w.heap.size) (hbx : bx < w.heap.size) (hbn : ∀ a n c, w.cell? ⟨bx, 0, none⟩ = some (.slice (some a) n c) → a.block < n₀)
    (hd : Dn w gd m q fs) (hB : Cells w Bn 22 #[.pointer (some ⟨gd, 0, none⟩)]) :
    SeqStopsK Fence.wide n Try.prog 47 #[.pointer (some ⟨Bn, 0, none⟩)] (encI (fs := fs)) (Kq gd m Bn n₀ bx) (fun ys => ys.map Subtype.val = fs) (fun pre => pre.map Subtype.val <+: fs) fs.length w := fun l J Jx W hW hJ _ hY h0 =>
  have hsz := hW.size
  inOrder1_in n hn l gd m q Bn n₀ bx fs hs hfl hnl J Jx W hJ (Nat.le_trans hn₀ hsz) (Nat.lt_of_lt_of_le hbx hsz) (fun a n c h => hbn a n c ((hW.cell (p := ⟨bx, 0, none⟩) hbx).symm.trans h)) hY
    (hd.below hW hd.blk.lt hd.map.lt) (Nat.lt_of_lt_of_le hd.blk.lt hsz) (Nat.lt_of_lt_of_le hd.map.lt hsz) (hB.below hW hB.lt) h0
theorem inOrder_nil (n : Nat) (hn : 6 ≤ n) (Bn : Nat) (v : Value) (w : World) (Kp : World → World → Prop) (hv : NilD w v) (hB : Cells w Bn 22 #[v]) :
    SeqStopsK Fence.wide n Try.prog 47 #[.pointer (some ⟨Bn, 0, none⟩)] (encI (fs := [])) Kp (fun ys => ys = []) (fun _ => False) 0 w := fun l J Jx W hW hJ _ hY h0 =>
  (inOrder1_nil n hn l Bn v J W hJ (by
    rcases hv with rfl | ⟨g, q, rfl, hc⟩
    · exact .inl rfl
    · exact .inr ⟨g, q, rfl, hc.below hW hc.lt⟩) (hB.below hW hB.lt) h0).mono (by
      rintro e W' ⟨h1, h2⟩
      exact ⟨h1, .inl ⟨[], rfl, h2⟩⟩)
end Go.Proofs.Ythjhjbiihhpnfaa
