/- Texts of the walk. -/
import Derived.Test.YtgeaacabpnepmaaGreatDoorKw9
/- Lists are cloned. -/
namespace Go.Proofs.YtgeaacabpnepmaaGreatDoor
open Go.RowKit
set_option linter.unusedVariables false
set_option linter.unusedSimpArgs false
set_option maxRecDepth 20000

theorem ps_news {w : World} {b o : Nat} {l : List (Nat × Nat)} (h : PsAt w (some ⟨b, o, none⟩) l) : ∀ j u, (Gpl l)[j]? = some u → w.cell? ((⟨b, o, none⟩ : Addr).add j) = some u := fun j u hu => by
  have hj : j < (Gpl l).length := (List.getElem?_eq_some_iff.1 hu).1
  rw [Gpl_len] at hj
  have hk : j / 2 < l.length := by omega
  have hi : j % 2 < (gpv (l[j / 2]'hk)).length := Nat.mod_lt _ (by decide)
  have hv := List.getElem?_eq_getElem hi
  have h1 := Gpl_at l (j / 2) (j % 2) hk _ hv
  rw [show j / 2 * 2 + j % 2 = j by omega, hu] at h1
  obtain ⟨b', o', e, hc⟩ := h (j / 2) hk
  cases e
  have hj2 : o + j / 2 * 2 + j % 2 = o + j := by omega
  rw [show (⟨b, o, none⟩ : Addr).add j = ⟨b, o + j / 2 * 2 + j % 2, none⟩ from by rw [hj2]; simp [Addr.add]]
  rw [h1]
  exact hc _ _ hv
theorem nn_news {w : World} {b o : Nat} {l : List Nat} (h : NsAt w (some ⟨b, o, none⟩) l) : ∀ j u, (Gnl l)[j]? = some u → w.cell? ((⟨b, o, none⟩ : Addr).add j) = some u := fun j u hu => by
  have hj : j < (Gnl l).length := (List.getElem?_eq_some_iff.1 hu).1
  rw [Gnl_len, Nat.mul_one] at hj
  have h1 := Gnl_at l j 0 hj _ (rfl : (gnv (l[j]'hj))[0]? = some _)
  rw [show j * 1 + 0 = j by omega, hu] at h1
  obtain ⟨b', o', e, hc⟩ := h j hj
  cases e
  rw [show (⟨b, o, none⟩ : Addr).add j = ⟨b, o + j * 1 + 0, none⟩ from by simp [Addr.add]]
  rw [h1]
  exact hc _ _ rfl
theorem PsAt.nilOf {w : World} {l : List (Nat × Nat)} (h : PsAt w none l) : l = [] := by
  rcases l with _ | ⟨k, r⟩
  · rfl
  · obtain ⟨b, o, e, _⟩ := h 0 (by simp); cases e
theorem NsAt.nilOf {w : World} {l : List Nat} (h : NsAt w none l) : l = [] := by
  rcases l with _ | ⟨k, r⟩
  · rfl
  · obtain ⟨b, o, e, _⟩ := h 0 (by simp); cases e
theorem InAt.nilOf {w : World} {l : List Nat} (h : InAt w none l) : l = [] := by
  rcases l with _ | ⟨k, r⟩
  · rfl
  · obtain ⟨b, o, e, _⟩ := h 0 (by simp); cases e
theorem told_ins {T : TypeId} {w : World} {B n cap : Nat} {ao : Option Addr} {l : List Nat} (h : w.ownsRow B T 1 (.slice ao n cap) l.length (l.map fun y : Nat => Value.int .u8 (y : Int))) (hn : l.length = n) : InAt w ao l ∧ (∀ a, ao = some a → B ≤ a.block ∧ a.block < w.heap.size) ∧ n ≤ cap ∧ cap ≤ maxLen ∧ (ao = none → cap = 0) := by
  obtain ⟨ao2, cap2, e, h1, h2, h3, h4, h5⟩ := inAt_row h
  cases e
  exact ⟨h1, h2, by omega, h4, h5⟩
theorem PsAt.ptr {w : World} {b : Addr} {l : List (Nat × Nat)} (h : PsAt w (some b) l) (h0 : l ≠ []) : ∃ x o, b = ⟨x, o, none⟩ := by
  obtain ⟨x, o, e, _⟩ := h 0 (List.length_pos_iff.2 h0)
  cases e; exact ⟨x, o, rfl⟩
theorem NsAt.ptr {w : World} {b : Addr} {l : List Nat} (h : NsAt w (some b) l) (h0 : l ≠ []) : ∃ x o, b = ⟨x, o, none⟩ := by
  obtain ⟨x, o, e, _⟩ := h 0 (List.length_pos_iff.2 h0)
  cases e; exact ⟨x, o, rfl⟩
/-- What a clone is: all of it new. -/
def ClnPost (At : World → Option Addr → Prop) (T : TypeId) (k : Nat) (xs : List Value) (n : Nat) (w : World) (R : Ending) (w' : World) : Prop := ∃ ao ac, R = .returned (.slice ao n ac) ∧ At w' ao ∧ (∀ a, ao = some a → w.heap.size ≤ a.block ∧ a.block < w'.heap.size) ∧ n ≤ ac ∧ ac ≤ maxLen ∧ Below w.heap.size w w' ∧ w'.ownsRow w.heap.size T k (.slice ao n ac) n xs
set_option maxHeartbeats 2000000 in
theorem pclone_c (ao : Option Addr) (l : List (Nat × Nat)) (cap : Nat) (w : World) (hi : PsAt w ao l) (hl : l.length ≤ 200000) :
    Calls Tryz.prog 67 #[.slice ao l.length cap] w (ClnPost (fun W a => PsAt W a l) 122 2 (Gpl l) l.length w) := by
  obtain ⟨i0, hi0, hz0, hz1, hz2⟩ := Go.info_parts (P := Tryz.prog) (e := 122) (z := (.agg #[.int .u64 0, .int .u64 0])) (size := 2) (bytes := 16) (by kernel_rfl)
  have q22 : ∀ (w : World) (a : Option Addr) (n c n' c' : Nat), (binOp .eql 58 (.slice a n c) (.slice none n' c')).run Tryz.prog w = .ok (.bool a.isNone) w := fun w a n c n' c' => Lib.run_eql_slice_nil w _ _ a n c n' c' Tryz.underlying58
  have HI := Lib.hid hi
  have HL := Lib.hid hl
  cases ao with
  | none =>
    have h0 : l = [] := hi.nilOf
    subst h0
    clear hi hl
    go_enter Tryz.func67, Tryz.ntmps67
    go_wp2
    go_ret
    exact ⟨none, 0, rfl, PsAt.nil _ _, fun a e => (by cases e), Nat.le_refl _, Nat.zero_le _, Below.refl _ w, World.ownsRow_nil _ _ _ _⟩
  | some ad =>
    have hcells : ∀ j u, (Gpl l)[j]? = some u → w.cell? (ad.add j) = some u := fun j u hj => by
      have h0 : l ≠ [] := fun e => by subst e; cases hj
      obtain ⟨x, o, rfl⟩ := hi.ptr h0
      exact ps_news hi j u hj
    have HC := Lib.hid hcells
    clear hi hl hcells
    go_enter Tryz.func67, Tryz.ntmps67
    go_wp2_with (at_builtin; refine wpList_append_own _ rfl _ _ 58 rfl w.heap.size 122 i0 (.agg #[.int .u64 0, .int .u64 0]) 2 16 Tryz.underlying58 hi0 hz0 hz1 hz2 rfl (by decide) _ _ _ rfl (World.ownsRow_made w #[] 0 (Nat.le_refl _) (Nat.zero_le _) rfl) ad l.length cap (Gpl l) rfl ?qc1 ?qc2 ?qc3 ?qc4 ?qc5 ?qc6 ?_)
    case qc1 => simp [Gpl_len]
    case qc2 => intro j u hj; exact Lib.cell?_alloc_some _ (HC.out j u hj)
    case qc3 => exact Gpl_one l
    case qc4 => have := HL.out; unfold maxLen; omega
    case qc5 => have := HL.out; omega
    case qc6 => simp
    intro v' w1 hown hgrow _
    go_wp2
    go_ret
    have hown2 : w1.ownsRow w.heap.size 122 2 v' l.length (Gpl l) := by simpa using hown
    obtain ⟨ao2, n2, ac2, rfl⟩ : ∃ a n c, v' = .slice a n c := by
      rcases hown2.2 with ⟨e, _⟩ | ⟨g, cp, cur, e, _⟩
      · exact ⟨_, _, _, e⟩
      · exact ⟨_, _, _, e⟩
    obtain rfl : n2 = l.length := by
      rcases hown2.2 with ⟨e, h0⟩ | ⟨g, cp, cur, e, _⟩
      · cases e; omega
      · cases e; rfl
    obtain ⟨h1, h2, h3, h4, _⟩ := told_part (T := 122) (bs := []) ⟨hown2, fun _ h => (by cases h), fun _ h => (by cases h)⟩ rfl
    exact ⟨ao2, ac2, rfl, h1, h2, h3, h4, ((Below.refl _ w).alloc (Nat.le_refl _) _).grown hgrow (by simp) (by intro k hk; simp [Value.ownBlock] at hk; omega), hown2⟩
set_option maxHeartbeats 2000000 in
theorem nclone_c (ao : Option Addr) (l : List Nat) (cap : Nat) (w : World) (hi : NsAt w ao l) (hl : l.length ≤ 200000) :
    Calls Tryz.prog 68 #[.slice ao l.length cap] w (ClnPost (fun W a => NsAt W a l) 37 1 (Gnl l) l.length w) := by
  obtain ⟨i0, hi0, hz0, hz1, hz2⟩ := Go.info_parts (P := Tryz.prog) (e := 37) (z := (.int .u64 0)) (size := 1) (bytes := 8) (by kernel_rfl)
  have q22 : ∀ (w : World) (a : Option Addr) (n c n' c' : Nat), (binOp .eql 41 (.slice a n c) (.slice none n' c')).run Tryz.prog w = .ok (.bool a.isNone) w := fun w a n c n' c' => Lib.run_eql_slice_nil w _ _ a n c n' c' Tryz.underlying41
  have HI := Lib.hid hi
  have HL := Lib.hid hl
  cases ao with
  | none =>
    have h0 : l = [] := hi.nilOf
    subst h0
    clear hi hl
    go_enter Tryz.func68, Tryz.ntmps68
    go_wp2
    go_ret
    exact ⟨none, 0, rfl, NsAt.nil _ _, fun a e => (by cases e), Nat.le_refl _, Nat.zero_le _, Below.refl _ w, World.ownsRow_nil _ _ _ _⟩
  | some ad =>
    have hcells : ∀ j u, (Gnl l)[j]? = some u → w.cell? (ad.add j) = some u := fun j u hj => by
      have h0 : l ≠ [] := fun e => by subst e; cases hj
      obtain ⟨x, o, rfl⟩ := hi.ptr h0
      exact nn_news hi j u hj
    have HC := Lib.hid hcells
    clear hi hl hcells
    go_enter Tryz.func68, Tryz.ntmps68
    go_wp2_with (at_builtin; refine wpList_append_own _ rfl _ _ 41 rfl w.heap.size 37 i0 (.int .u64 0) 1 8 Tryz.underlying41 hi0 hz0 hz1 hz2 rfl (by decide) _ _ _ rfl (World.ownsRow_made w #[] 0 (Nat.le_refl _) (Nat.zero_le _) rfl) ad l.length cap (Gnl l) rfl ?qc1 ?qc2 ?qc3 ?qc4 ?qc5 ?qc6 ?_)
    case qc1 => simp [Gnl_len]
    case qc2 => intro j u hj; exact Lib.cell?_alloc_some _ (HC.out j u hj)
    case qc3 => exact Gnl_one l
    case qc4 => have := HL.out; unfold maxLen; omega
    case qc5 => have := HL.out; omega
    case qc6 => simp
    intro v' w1 hown hgrow _
    go_wp2
    go_ret
    have hown2 : w1.ownsRow w.heap.size 37 1 v' l.length (Gnl l) := by simpa using hown
    obtain ⟨ao2, n2, ac2, rfl⟩ : ∃ a n c, v' = .slice a n c := by
      rcases hown2.2 with ⟨e, _⟩ | ⟨g, cp, cur, e, _⟩
      · exact ⟨_, _, _, e⟩
      · exact ⟨_, _, _, e⟩
    obtain rfl : n2 = l.length := by
      rcases hown2.2 with ⟨e, h0⟩ | ⟨g, cp, cur, e, _⟩
      · cases e; omega
      · cases e; rfl
    obtain ⟨h1, h2, h3, h4, _⟩ := told_num (T := 37) (bs := []) ⟨hown2, fun _ h => (by cases h), fun _ h => (by cases h)⟩ rfl
    exact ⟨ao2, ac2, rfl, h1, h2, h3, h4, ((Below.refl _ w).alloc (Nat.le_refl _) _).grown hgrow (by simp) (by intro k hk; simp [Value.ownBlock] at hk; omega), hown2⟩
set_option maxHeartbeats 2000000 in
theorem inclone_c (ao : Option Addr) (l : List Nat) (cap : Nat) (w : World) (hi : InAt w ao l) (hl : l.length ≤ 200000) :
    Calls Tryz.prog 83 #[.slice ao l.length cap] w (ClnPost (fun W a => InAt W a l) 38 1 (l.map fun y : Nat => Value.int .u8 (y : Int)) l.length w) := by
  obtain ⟨i0, hi0, hz0, hz1, hz2⟩ := Go.info_parts (P := Tryz.prog) (e := 38) (z := (.int .u8 0)) (size := 1) (bytes := 1) (by kernel_rfl)
  have q22 : ∀ (w : World) (a : Option Addr) (n c n' c' : Nat), (binOp .eql 47 (.slice a n c) (.slice none n' c')).run Tryz.prog w = .ok (.bool a.isNone) w := fun w a n c n' c' => Lib.run_eql_slice_nil w _ _ a n c n' c' Tryz.underlying47
  have HI := Lib.hid hi
  have HL := Lib.hid hl
  cases ao with
  | none =>
    have h0 : l = [] := hi.nilOf
    subst h0
    clear hi hl
    go_enter Tryz.func83, Tryz.ntmps83
    go_wp2
    go_ret
    exact ⟨none, 0, rfl, InAt.nil _ _, fun a e => (by cases e), Nat.le_refl _, Nat.zero_le _, Below.refl _ w, World.ownsRow_nil _ _ _ _⟩
  | some ad =>
    have hcells : ∀ j u, (l.map fun y : Nat => Value.int .u8 (y : Int))[j]? = some u → w.cell? (ad.add j) = some u := fun j u hj => by
      have h0 : l ≠ [] := fun e => by subst e; cases hj
      exact hi.news j u hj
    have HC := Lib.hid hcells
    clear hi hl hcells
    go_enter Tryz.func83, Tryz.ntmps83
    go_wp2_with (at_builtin; refine wpList_append_own _ rfl _ _ 47 rfl w.heap.size 38 i0 (.int .u8 0) 1 1 Tryz.underlying47 hi0 hz0 hz1 hz2 rfl (by decide) _ _ _ rfl (World.ownsRow_made w #[] 0 (Nat.le_refl _) (Nat.zero_le _) rfl) ad l.length cap (l.map fun y : Nat => Value.int .u8 (y : Int)) rfl ?qc1 ?qc2 ?qc3 ?qc4 ?qc5 ?qc6 ?_)
    case qc1 => simp
    case qc2 => intro j u hj; exact Lib.cell?_alloc_some _ (HC.out j u hj)
    case qc3 => intro u hu; obtain ⟨x, _, rfl⟩ := List.mem_map.1 hu; rfl
    case qc4 => have := HL.out; unfold maxLen; omega
    case qc5 => have := HL.out; omega
    case qc6 => simp
    intro v' w1 hown hgrow _
    go_wp2
    go_ret
    have hown2 : w1.ownsRow w.heap.size 38 1 v' l.length (l.map fun y : Nat => Value.int .u8 (y : Int)) := by simpa using hown
    obtain ⟨ao2, n2, ac2, rfl⟩ : ∃ a n c, v' = .slice a n c := by
      rcases hown2.2 with ⟨e, _⟩ | ⟨g, cp, cur, e, _⟩
      · exact ⟨_, _, _, e⟩
      · exact ⟨_, _, _, e⟩
    obtain rfl : n2 = l.length := by
      rcases hown2.2 with ⟨e, h0⟩ | ⟨g, cp, cur, e, _⟩
      · cases e; omega
      · cases e; rfl
    obtain ⟨h1, h2, h3, h4, _⟩ := told_ins hown2 rfl
    exact ⟨ao2, ac2, rfl, h1, h2, h3, h4, ((Below.refl _ w).alloc (Nat.le_refl _) _).grown hgrow (by simp) (by intro k hk; simp [Value.ownBlock] at hk; omega), hown2⟩
end Go.Proofs.YtgeaacabpnepmaaGreatDoor
/- A region that asks the tape for its order, some of whose operations write what others read: what is asked of the world (S) is asked only as long as one of K is still to come up. Nothing of the program. -/
namespace Go.Proofs.YtgeaacabpnepmaaGreatDoor
open Go.RowKit
set_option linter.unusedVariables false

def dOf (K : List Nat) (l : Array Bool) : Bool := K.any fun k => !l.getD k true
section
variable {P : Program} {ops : Array Oper} {Q : Exit → Act → World → Prop} {md : Region.Mode} {S : World → Prop} {K : List Nat}
def wpTo (P : Program) (md : Region.Mode) (ops : Array Oper) (Q : Exit → Act → World → Prop) (S : World → Prop) (K : List Nat) : Nat → Array Bool → Act → World → Prop
  | 0, listed, a, w => Region.ready md ops listed = [] ∧ Q .normal a w
  | n + 1, listed, a, w =>
    (Region.ready md ops listed = [] → Q .normal a w) ∧ (dOf K listed = true → S w) ∧
      ∀ i, i ∈ Region.ready md ops listed → wpOp P ops Q i (fun a' w' => wpTo P md ops Q S K n (listed.setIfInBounds i true) a' w') a w
theorem wpTo_any : ∀ (n : Nat) (listed : Array Bool) (a : Act) (w : World), wpTo P md ops Q S K n listed a w → wpAny P md ops Q n listed a w
  | 0, _, _, _, h => h
  | n + 1, _, _, _, h => ⟨h.1, fun i hi => wpOp_mono (fun a' w' k => wpTo_any n _ a' w' k) (h.2.2 i hi)⟩
theorem wp_region_to {id : Nat} {a : Act} {w : World} (hm : P.follows .mixedOrders = true)
    (h : wpTo P .any ops Q S K ops.size (Array.replicate ops.size false) a w.drew) : (Code.region id ops true).wp P Q a w :=
  wp_region_any hm (wpTo_any _ _ _ _ h)
theorem wpTo_done {n : Nat} {listed : Array Bool} {a : Act} {w : World} (hr : Region.ready md ops listed = []) (hd : dOf K listed = false) (h : Q .normal a w) : wpTo P md ops Q S K n listed a w := by
  cases n with
  | zero => exact ⟨hr, h⟩
  | succ n => exact ⟨fun _ => h, fun k => (by rw [hd] at k; cases k), fun i hi => by rw [hr] at hi; cases hi⟩
theorem wpTo_off {b : Bool} {p : Prop} (h : b = false) : b = true → p := fun k => by rw [h] at k; cases k
theorem wpTo_run {i n : Nat} {o : Oper} {listed : Array Bool} {a : Act} {w : World} (hr : Region.ready md ops listed = [i]) (ho : ops[i]? = some o) (hS : dOf K listed = true → S w)
    (h : ∀ K' : Act → World → Prop, (∀ a' w', wpTo P md ops Q S K n (listed.setIfInBounds i true) a' w' → K' a' w') → if Region.wanted o (yielded ops a.tmps) = true then Oper.wp P o a w K' Q else K' (a.put o.dst undef) w) :
    wpTo P md ops Q S K (n + 1) listed a w :=
  ⟨fun k => (by rw [hr] at k; cases k), hS, fun j hj => by
    rw [hr, List.mem_singleton] at hj
    subst hj
    exact wpOp_step ho h⟩
def takeK (md : Region.Mode) (ops : Array Oper) (K : List Nat) (listed : Array Bool) (i : Nat) : Bool :=
  Region.noSelect ops && orderedB md ops && decide (listed.size = ops.size) && (Region.free md ops listed i && (Region.ready md ops listed).contains i) &&
    K.any fun k => Region.waitsFor md ops k i && !listed.getD k true && decide (k < ops.size)
theorem takeK_first {i k : Nat} {oi : Oper} {v : Value} (hi : ops[i]? = some oi) (hsel : Region.noSelect ops = true) (hord : orderedB md ops = true)
    (hQ : ∀ c a w, Q (.panic c) (a.put oi.dst v) w → Q (.panic c) a w) (hwk : Region.waitsFor md ops k i = true) (hki : k ≠ i) (hks : k < ops.size) (hkK : k ∈ K) :
    ∀ (n : Nat) (listed : Array Bool) (a : Act) (w : World), listed.size = ops.size → listed.getD k true = false →
      (∀ j oj, ops[j]? = some oj → j ≠ i → listed.getD j true = false → (∀ e ∈ oj.after, Region.binds md e = true → e.on ≠ i) → oi.apart ops oj = true) →
      i ∈ Region.ready md ops listed → YieldsIf P ops S oi v a → S w →
      wpTo P md ops Q S K n (listed.setIfInBounds i true) (a.put oi.dst v) w → wpTo P md ops Q S K (n + 1) listed a w
  | n, listed, a, w, hz, hku, hfree, hr, hy, hS, H => by
    have hiu := (mem_ready.1 hr).1
    refine ⟨fun h0 => (by rw [h0] at hr; cases hr), fun _ => hS, fun j hj => ?_⟩
    by_cases hji : j = i
    · subst hji
      exact hy.wpOp hi hS H
    · have hjr := ready_mono hj hji
      have hjk : j ≠ k := fun e => waits_not_ready hwk hiu (e ▸ hj)
      cases n with
      | zero => rw [H.1] at hjr; cases hjr
      | succ n =>
        obtain ⟨hju, oj, hoj, hall⟩ := mem_ready.1 hj
        have hap := hfree j oj hoj hji hju (fun e he hb heq => by
          have := hall e he hb
          rw [heq, getD_both hiu] at this
          cases this)
        have h2 := wpOp_putIf (S := S) hoj hap (fun cs b => Region.noSelect_spec hsel i oi cs b hi) (fun cs b => Region.noSelect_spec hsel j oj cs b hoj) hQ hy (H.2.2 j hjr)
        have hzj : (listed.setIfInBounds j true).size = ops.size := by simpa using hz
        have hkj : (listed.setIfInBounds j true).getD k true = false := by rw [getD_set_ne true hjk]; exact hku
        refine wpOp_mono (fun a' w' h3 => ?_) h2
        have h4 := h3.2
        rw [Array.setIfInBounds_comm _ _ (Ne.symm hji)] at h4
        have hkz : ((listed.setIfInBounds j true).setIfInBounds i true).getD k true = false := by rw [getD_set_ne true (Ne.symm hki)]; exact hkj
        have hsome := ready_some hord (listed := (listed.setIfInBounds j true).setIfInBounds i true) (by simpa using hz) k hks hkz
        have hS' : S w' := by
          cases n with
          | zero => exact absurd h4.1 hsome
          | succ n => exact h4.2.1 (List.any_eq_true.2 ⟨k, hkK, by rw [hkz]; rfl⟩)
        refine takeK_first hi hsel hord hQ hwk hki hks hkK n _ a' w' hzj hkj (fun l ol hl hli hlu hno => hfree l ol hl hli ?_ hno) (ready_mono hr (Ne.symm hji)) h3.1 hS' h4
        by_cases hjl : j = l
        · subst hjl; exact hju
        · rw [getD_set_ne true hjl] at hlu; exact hlu
theorem wpTo_take {i n : Nat} {oi : Oper} {v : Value} {listed : Array Bool} {a : Act} {w : World} (hi : ops[i]? = some oi) (hB : takeK md ops K listed i = true)
    (hQ : ∀ c a w, Q (.panic c) (a.put oi.dst v) w → Q (.panic c) a w) (hy : YieldsIf P ops S oi v a) (hS : S w)
    (h : wpTo P md ops Q S K n (listed.setIfInBounds i true) (a.put oi.dst v) w) : wpTo P md ops Q S K (n + 1) listed a w := by
  simp only [takeK, Bool.and_eq_true, decide_eq_true_eq, List.any_eq_true, Bool.not_eq_true'] at hB
  obtain ⟨⟨⟨⟨hsel, hord⟩, hz⟩, hf, hr⟩, k, hkK, ⟨hwk, hku⟩, hks⟩ := hB
  have hr' : i ∈ Region.ready md ops listed := by simpa using hr
  have hki : k ≠ i := by
    rintro rfl
    obtain ⟨o, ho, e, he, hb, hon⟩ := Region.waitsFor_spec hwk
    have := ordered_spec hord ho he hb
    omega
  exact takeK_first hi hsel hord hQ hwk hki hks hkK n listed a w hz hku (Region.free_spec hi hf) hr' hy hS h
end
end Go.Proofs.YtgeaacabpnepmaaGreatDoor
/- The manifest that was written last, as a copy. -/
namespace Go.Proofs.YtgeaacabpnepmaaGreatDoor
open Go.RowKit
set_option linter.unusedVariables false
set_option linter.unusedSimpArgs false
set_option maxRecDepth 20000

/-- A manifest in memory of its own. -/
def JManPost (m : Mf) (w : World) (R : Ending) (w' : World) : Prop := ∃ so sc co cc, R = .returned (.agg (mcs m so sc co cc)) ∧ MfAt w' m so co ∧ (m.sg.length ≤ sc ∧ sc ≤ maxLen) ∧ (m.ck.length ≤ cc ∧ cc ≤ maxLen) ∧ (∀ x, mbl m so co x → w.heap.size ≤ x) ∧ Below w.heap.size w w' ∧ w'.ownsRow w.heap.size 122 2 (.slice so m.sg.length sc) m.sg.length (Gpl m.sg) ∧ ∀ a, co = some a → (Value.slice so m.sg.length sc).ownBlock ≠ some a.block
theorem ty_nums' : TyO 41 := tyo_of Tryz.underlying41 rfl (by kernel_rfl)
theorem ld_nums' (v : Value) : Instr.loadAt 41 v = ldT 41 v := rfl
theorem st_nums' (p v : Value) : Instr.storeAt 41 p v = stT 41 p v := rfl
theorem ld_parts' (v : Value) : Instr.loadAt 58 v = ldT 58 v := rfl
theorem st_parts' (p v : Value) : Instr.storeAt 58 p v = stT 58 p v := rfl
section
variable {V : Nat → Prop} {w w1 : World} {gj gp q kc : Nat} {dv : Value} {ko : Option Addr} {p : Pw} {j : Jn} {so co ao : Option Addr} {sc cc ac : Nat} {m : Mf}
attribute [local go_sem ↓] ld_man st_man ld_parts' st_parts' ld_nums' st_nums'
set_option maxHeartbeats 4000000 in
theorem jman_c (w : World) (h : JC V w gj gp q dv ko kc p j) : Calls Tryz.prog 24 #[.pointer (some ⟨gj, 0, none⟩)] w (JManPost (jMan j) w) := by
  have HW := Lib.hid (works_c _ (h.new (below_alloc w (.cells (mcs mz none 0 none 0) 60))))
  have H0 := Loc.one w 60 (mcs mz none 0 none 0)
  have HJ := Lib.hid (h.new H0.be)
  clear h
  cases hb : j.br
  case true =>
    rw [show jMan j = mz from if_pos hb]
    rw [hb] at HW
    obtain ⟨w3, s3, H3, _⟩ := H0.stA ty_man 0 rfl 0 (mcs mz none 0 none 0) (cs' := mcs mz none 0 none 0) rfl (L' := [(w.heap.size, 60, mcs mz none 0 none 0)]) rfl (Nat.le_of_ble_eq_true rfl) rfl rfl
    have H3' := Lib.hid H3
    clear H3 H0
    go_enter Tryz.func24, Tryz.ntmps24
    go_upto_region 1 with fail
    replace s3 : (stT 60 (.pointer (some ⟨w.heap.size, 0, none⟩)) (.agg #[.int .u64 0, .int .u8 0, .slice none 0 0, .slice none 0 0])).run Tryz.prog _ = .ok () w3 := s3
    rw [show mcs mz none 0 none 0 = #[.int .u64 0, .int .u8 0, .slice none 0 0, .slice none 0 0] from rfl] at *
    generalize w.alloc (.cells #[.int .u64 0, .int .u8 0, .slice none 0 0, .slice none 0 0] 60) = wa at *
    go_wp2_with fail
    refine HW.out.mono ?_
    rintro R w' ⟨rfl, rfl⟩
    go_wp2
    refine bodyPost_ret (ret_struct Tryz.underlying60 ty_man _ 2 _ Tryz.results24 (H3'.out.get 0 rfl) rfl rfl) rfl ?_
    exact ⟨none, 0, none, 0, rfl, mz_at _, ⟨Nat.le_refl _, Nat.zero_le _⟩, ⟨Nat.le_refl _, Nat.zero_le _⟩, fun x hx => (by rcases hx with ⟨h, _⟩ | ⟨h, _⟩ <;> exact absurd rfl h), H3'.out.be, World.ownsRow_nil _ _ _ _, fun a e => (by cases e)⟩
  case false =>
    rw [show jMan j = j.m from if_neg (by rw [hb]; exact Bool.false_ne_true)]
    rw [hb] at HW
    obtain ⟨S, ao, ac, so, sc, co, cc, hx⟩ := HJ.out
    have HX := Lib.hid hx
    have l1 : (ldT 60 (.pointer (some ⟨gj, 6, none⟩))).run Tryz.prog _ = .ok (.agg (mcs j.m so sc co cc)) _ := (js_of hx.jn.blk).2
    obtain ⟨g3, w3, z3, s3, H3, q3⟩ := H0.newA ty_man (mcs mz none 0 none 0) (mcs j.m so sc co cc) rfl rfl rfl
    have H3' : Hid (Loc w.heap.size w w3 [(w.heap.size, 60, mcs mz none 0 none 0), (g3, 60, mcs j.m so sc co cc)]) := H3
    have HX3 := Lib.hid (hx.new (below_of_grown q3))
    clear H3 H0 hx q3 HX
    go_enter Tryz.func24, Tryz.ntmps24
    go_upto_region 1 with fail
    rw [show mcs mz none 0 none 0 = #[.int .u64 0, .int .u8 0, .slice none 0 0, .slice none 0 0] from rfl] at *
    generalize w.alloc (.cells #[.int .u64 0, .int .u8 0, .slice none 0 0, .slice none 0 0] 60) = wa at *
    go_wp2_with fail
    refine HW.out.mono ?_
    rintro R w' ⟨rfl, rfl⟩
    go_upto_region 4 with fail
    have HLd := Lib.hid (H3'.out.drew)
    have HXd := Lib.hid (HX3.out.new (Below.refl _ w3).drew)
    generalize hwd : w3.drew = wd at *
    have hs0 : (ldT 58 (.pointer (some ⟨g3, 2, none⟩))).run Tryz.prog wd = .ok (.slice so j.m.sg.length sc) wd ∧ (ldT 41 (.pointer (some ⟨g3, 3, none⟩))).run Tryz.prog wd = .ok (.slice co j.m.ck.length cc) wd := ⟨HLd.out.ldO ty_parts 1 rfl 2 rfl, HLd.out.ldO ty_nums' 1 rfl 3 rfl⟩
    refine wp_region_to (K := [1, 2, 4, 5, 7]) (S := fun W => (ldT 58 (.pointer (some ⟨g3, 2, none⟩))).run Tryz.prog W = .ok (.slice so j.m.sg.length sc) W ∧ (ldT 41 (.pointer (some ⟨g3, 3, none⟩))).run Tryz.prog W = .ok (.slice co j.m.ck.length cc) W) (by kernel_rfl) ?_
    rw [hwd]
    clear hwd H3' HX3 s3 z3 l1
    refine wpTo_take (i := 0) (v := ?va0) rfl (by kernel_rfl) (fun _ _ _ h => h) (Or.inl ⟨by rfl, ?hya0⟩) hs0 ?resta0
    case hya0 => (rintro W ⟨hW1, hW2⟩; go_simp; try with_reducible rfl)
    simp only [Act.put, List.setIfInBounds_toArray, List.set_cons_zero, List.set_cons_succ, List.getElem_toArray, List.getElem_cons_succ, List.getElem_cons_zero]
    refine wpTo_take (i := 1) (v := ?va1) rfl (by kernel_rfl) (fun _ _ _ h => h) (Or.inl ⟨by rfl, ?hya1⟩) hs0 ?resta1
    case hya1 => (rintro W ⟨hW1, hW2⟩; go_simp; try with_reducible rfl)
    simp only [Act.put, List.setIfInBounds_toArray, List.set_cons_zero, List.set_cons_succ, List.getElem_toArray, List.getElem_cons_succ, List.getElem_cons_zero]
    refine wpTo_take (i := 3) (v := ?va3) rfl (by kernel_rfl) (fun _ _ _ h => h) (Or.inl ⟨by rfl, ?hya3⟩) hs0 ?resta3
    case hya3 => (rintro W ⟨hW1, hW2⟩; go_simp; try with_reducible rfl)
    simp only [Act.put, List.setIfInBounds_toArray, List.set_cons_zero, List.set_cons_succ, List.getElem_toArray, List.getElem_cons_succ, List.getElem_cons_zero]
    refine wpTo_take (i := 4) (v := ?va4) rfl (by kernel_rfl) (fun _ _ _ h => h) (Or.inl ⟨by rfl, ?hya4⟩) hs0 ?resta4
    case hya4 => (rintro W ⟨hW1, hW2⟩; go_simp; try with_reducible rfl)
    simp only [Act.put, List.setIfInBounds_toArray, List.set_cons_zero, List.set_cons_succ, List.getElem_toArray, List.getElem_cons_succ, List.getElem_cons_zero]
    refine wpTo_run (i := 2) (by kernel_rfl) rfl (fun _ => hs0) (fun K hK => ?_)
    go_simp
    go_at_call 67
    refine (pclone_c so j.m.sg sc wd HXd.out.jn.man.ps (by have := HXd.out.jn.fit.sgl; omega)).mono ?_
    rintro R w4 ⟨so2, sc2, rfl, hps, hnw, hc1, hc2, hb4, hown⟩
    have HPS := Lib.hid (And.intro hps (And.intro hnw (And.intro (And.intro hc1 hc2) hown)))
    have HL4 := Lib.hid (HLd.out.to hb4)
    have HX4 := Lib.hid (HXd.out.new hb4)
    have hs4 : (ldT 58 (.pointer (some ⟨g3, 2, none⟩))).run Tryz.prog w4 = .ok (.slice so j.m.sg.length sc) w4 ∧ (ldT 41 (.pointer (some ⟨g3, 3, none⟩))).run Tryz.prog w4 = .ok (.slice co j.m.ck.length cc) w4 := ⟨HL4.out.ldO ty_parts 1 rfl 2 rfl, HL4.out.ldO ty_nums' 1 rfl 3 rfl⟩
    have HSZ4 := Lib.hid hb4.size
    clear hps hnw hc1 hc2 hb4 hown
    refine hK _ _ ?_
    clear hK K
    refine wpTo_take (i := 6) (v := ?va6) rfl (by kernel_rfl) (fun _ _ _ h => h) (Or.inl ⟨by rfl, ?hya6⟩) hs4 ?resta6
    case hya6 => (rintro W ⟨hW1, hW2⟩; go_simp; try with_reducible rfl)
    simp only [Act.put, List.setIfInBounds_toArray, List.set_cons_zero, List.set_cons_succ, List.getElem_toArray, List.getElem_cons_succ, List.getElem_cons_zero]
    refine wpTo_run (i := 5) (by kernel_rfl) rfl (fun _ => hs4) (fun K hK => ?_)
    go_simp
    go_at_call 68
    refine (nclone_c co j.m.ck cc w4 HX4.out.jn.man.ns (by have := HX4.out.jn.fit.ckl; omega)).mono ?_
    rintro R w5 ⟨co2, cc2, rfl, hns, hnw, hc1, hc2, hb5, hown⟩
    have HNS := Lib.hid (And.intro hns (And.intro hnw (And.intro hc1 hc2)))
    have HL5 := Lib.hid (HL4.out.to hb5)
    have HX5 := Lib.hid (HX4.out.new hb5)
    have hs5 : (ldT 58 (.pointer (some ⟨g3, 2, none⟩))).run Tryz.prog w5 = .ok (.slice so j.m.sg.length sc) w5 ∧ (ldT 41 (.pointer (some ⟨g3, 3, none⟩))).run Tryz.prog w5 = .ok (.slice co j.m.ck.length cc) w5 := ⟨HL5.out.ldO ty_parts 1 rfl 2 rfl, HL5.out.ldO ty_nums' 1 rfl 3 rfl⟩
    have HPS5 := Lib.hid (And.intro (HPS.out.1.to hb5) (HPS.out.2.2.2.kept (grown_of_below (r := none) hb5) (by cases hv : (Value.slice so2 j.m.sg.length sc2).ownBlock <;> simp)))
    have HSZ5 := Lib.hid hb5.size
    clear hns hnw hc1 hc2 hb5 hown
    obtain ⟨w6, s6, H6, q6⟩ := HL5.out.stO ty_parts 1 rfl 2 (.slice so2 j.m.sg.length sc2) (cs' := mcs j.m so2 sc2 co cc) rfl (L' := [(w.heap.size, 60, #[.int .u64 0, .int .u8 0, .slice none 0 0, .slice none 0 0]), (g3, 60, mcs j.m so2 sc2 co cc)]) rfl (Nat.le_of_ble_eq_true rfl) rfl rfl
    obtain ⟨w7, s7, H7, q7⟩ := H6.stO ty_nums' 1 rfl 3 (.slice co2 j.m.ck.length cc2) (cs' := mcs j.m so2 sc2 co2 cc2) rfl (L' := [(w.heap.size, 60, #[.int .u64 0, .int .u8 0, .slice none 0 0, .slice none 0 0]), (g3, 60, mcs j.m so2 sc2 co2 cc2)]) rfl (Nat.le_of_ble_eq_true rfl) rfl rfl
    have HQ6 := Lib.hid q6
    have HQ7 := Lib.hid q7
    have H7' := Lib.hid H7
    clear H6 H7 q6 q7
    refine hK _ _ ?_
    clear hK K
    refine wpTo_run (i := 7) (by kernel_rfl) rfl (fun _ => hs5) (fun K hK => ?_)
    go_simp
    refine hK _ _ ?_
    clear hK K
    refine wpTo_run (i := 8) (by kernel_rfl) rfl (wpTo_off (by kernel_rfl)) (fun K hK => ?_)
    go_simp
    refine hK _ _ ?_
    clear hK K
    refine wpTo_run (i := 9) (by kernel_rfl) rfl (wpTo_off (by kernel_rfl)) (fun K hK => ?_)
    go_simp
    refine hK _ _ ?_
    clear hK K
    refine wpTo_done (by kernel_rfl) (by kernel_rfl) ?_
    clear hs0 hs4 hs5 s6 s7
    have l8 : (ldT 60 (.pointer (some ⟨g3, 0, none⟩))).run Tryz.prog w7 = .ok (.agg (mcs j.m so2 sc2 co2 cc2)) w7 := H7'.out.ldA ty_man 1 rfl 0 rfl (Nat.le_of_ble_eq_true rfl)
    obtain ⟨w8, s8, H8, q8⟩ := H7'.out.stA ty_man 0 rfl 0 (mcs j.m so2 sc2 co2 cc2) (cs' := mcs j.m so2 sc2 co2 cc2) rfl (L' := [(w.heap.size, 60, mcs j.m so2 sc2 co2 cc2), (g3, 60, mcs j.m so2 sc2 co2 cc2)]) rfl (Nat.le_of_ble_eq_true rfl) rfl rfl
    have H8' := Lib.hid H8
    have HQ8 := Lib.hid q8
    have HG : Hid (w.heap.size < wd.heap.size ∧ g3 < wd.heap.size ∧ w.heap.size ≤ wd.heap.size) := ⟨(HLd.out.get 0 rfl : Cells _ _ _ _).lt, (HLd.out.get 1 rfl : Cells _ _ _ _).lt, HLd.out.be.size⟩
    clear H8 q8
    go_wp2
    refine bodyPost_ret (ret_struct Tryz.underlying60 ty_man _ 2 _ Tryz.results24 (H8'.out.get 0 rfl) rfl rfl) rfl ?_
    have hg := HG.out
    have h45 := HSZ4.out
    have h55 := HSZ5.out
    have hso : ∀ a, so2 = some a → wd.heap.size ≤ a.block := fun a e => (HPS.out.2.1 a e).1
    have hco : ∀ a, co2 = some a → w4.heap.size ≤ a.block := fun a e => (HNS.out.2.1 a e).1
    have k6 : Tu (fun x => x = g3) w5 w6 := Tu.of_same HQ6.out
    have k7 : Tu (fun x => x = g3) w6 w7 := Tu.of_same HQ7.out
    have k8 : Tu (fun x => x = w.heap.size) w7 w8 := Tu.of_same HQ8.out
    have kk : Tu (fun x => x = g3 ∨ x = w.heap.size) w5 w8 := ((k6.mono fun _ _ h => .inl h).trans (k7.mono fun _ _ h => .inl h) fun _ _ h => h).trans (k8.mono fun _ _ h => .inr h) fun _ _ h => h
    have hown := HPS5.out.2
    have hownk : (Value.slice so2 j.m.sg.length sc2).ownBlock = none ∨ ∀ r, some r = (Value.slice so2 j.m.sg.length sc2).ownBlock → wd.heap.size ≤ r := .inr fun r e => (HPS.out.2.2.2.lt r e.symm).1
    have hne : ∀ g, g < wd.heap.size → (Value.slice so2 j.m.sg.length sc2).ownBlock ≠ some g := fun g hg e => by
      have := (HPS.out.2.2.2.lt g e).1; omega
    exact ⟨so2, sc2, co2, cc2, rfl, ⟨HXd.out.jn.man.fit, HPS5.out.1.tuS kk fun _ a e => by have := hso a e; omega, HNS.out.1.tuS kk fun _ a e => by have := hco a e; omega, HXd.out.jn.man.l1, HXd.out.jn.man.l2⟩, HPS.out.2.2.1, ⟨HNS.out.2.2.1, HNS.out.2.2.2⟩, fun x hx => by
      rcases hx with ⟨_, a, e, rfl⟩ | ⟨_, a, e, rfl⟩
      · have := hso a e; omega
      · have := hco a e; omega, H8'.out.be, own_low (((hown.kept HQ6.out (.inr (hne _ hg.2.1))).kept HQ7.out (.inr (hne _ hg.2.1))).kept HQ8.out (.inr (hne _ hg.1))) hg.2.2, fun a e h => by
      have h1 := (HPS.out.2.2.2.lt _ h).2
      have h2 := hco a e
      omega⟩
end
end Go.Proofs.YtgeaacabpnepmaaGreatDoor
