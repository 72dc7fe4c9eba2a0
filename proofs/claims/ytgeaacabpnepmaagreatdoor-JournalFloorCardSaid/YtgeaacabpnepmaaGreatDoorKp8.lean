/- Texts of the walk. -/
import Derived.Test.YtgeaacabpnepmaaGreatDoorKe8
import Derived.ArgAppend
import Derived.BigQuiet
/- The journal's small functions. -/
namespace Go.Proofs.YtgeaacabpnepmaaGreatDoor
open Go.RowKit
set_option linter.unusedVariables false
set_option linter.unusedSimpArgs false
set_option maxRecDepth 20000

theorem jlegal_c (i : Nat) (w : World) : Calls Tryz.prog 56 #[.int .u8 i] w fun E w' => E = .returned (.bool (decide (i < 64))) ∧ w = w' := by
  go_enter Tryz.func56, Tryz.ntmps56
  go_wp2
  go_ret
  exact ⟨congrArg (fun x => Ending.returned (Value.bool x)) (by simp only [decide_eq_decide]; omega : decide ((i : Int) < 64) = decide (i < 64)), rfl⟩
theorem ty_tally : TyA 67 2 := tya_struct Tryz.underlying67 (by kernel_rfl)
theorem ty_jcont : TyA 133 4 := tya_struct Tryz.underlying133 (by kernel_rfl)
theorem ty_inps : TyO 47 := tyo_of Tryz.underlying47 rfl (by kernel_rfl)
theorem ty_prs : TyO 46 := tyo_of Tryz.underlying46 rfl (by kernel_rfl)
theorem ty_pw : TyO 50 := tyo_of Tryz.underlying50 rfl (by kernel_rfl)
theorem ty_jp : TyO 32 := tyo_of Tryz.underlying32 rfl (by kernel_rfl)
theorem ld_inps (v : Value) : Instr.loadAt 47 v = ldT 47 v := rfl
theorem ld_prs (v : Value) : Instr.loadAt 46 v = ldT 46 v := rfl
theorem ld_pw (v : Value) : Instr.loadAt 50 v = ldT 50 v := rfl
theorem ld_jp (v : Value) : Instr.loadAt 32 v = ldT 32 v := rfl
theorem st_inps (p v : Value) : Instr.storeAt 47 p v = stT 47 p v := rfl
theorem st_prs (p v : Value) : Instr.storeAt 46 p v = stT 46 p v := rfl
theorem cells_st {T t : TypeId} (ty : TyO T) {w : World} {g : Nat} {cs : Array Value} (h : Cells w g t cs) (o : Nat) (ho : o < cs.size) (v : Value) (h1 : v.oneCell' = true) (hv : v.cells = #[v]) {cs' : Array Value} (he : (cs.toList.take o ++ [v] ++ cs.toList.drop (o + 1)).toArray = cs') :
    ∃ w', (stT T (.pointer (some ⟨g, o, none⟩)) v).run Tryz.prog w = .ok () w' ∧ Cells w' g t cs' ∧ w.grownBy w' (some g) ∧ w'.heap.size = w.heap.size :=
  ⟨_, by rw [run_stO ty h o ho v h1 hv, he], setRow_heap _ _ _ _ _ _ h, grown_setRow _ _ _, by simp [World.setRow]⟩
theorem cells_stA {T t : TypeId} {n : Nat} (ty : TyA T n) {w : World} {g : Nat} {cs : Array Value} (h : Cells w g t cs) (o : Nat) (vs : Array Value) (ho : o + n ≤ cs.size) (hn : vs.size = n) (h1 : vs.toList.all Value.oneCell' = true) {cs' : Array Value} (he : (cs.toList.take o ++ vs.toList ++ cs.toList.drop (o + n)).toArray = cs') :
    ∃ w', (stT T (.pointer (some ⟨g, o, none⟩)) (.agg vs)).run Tryz.prog w = .ok () w' ∧ Cells w' g t cs' ∧ w.grownBy w' (some g) ∧ w'.heap.size = w.heap.size :=
  ⟨_, by rw [run_stA ty h o ho hn h1, he], setRow_heap _ _ _ _ _ _ h, grown_setRow _ _ _, by simp [World.setRow]⟩
theorem last_at {l : List (Nat × Nat)} (h : 0 < l.length) : lastS l = l[l.length - 1]'(by omega) := by
  rcases List.eq_nil_or_concat l with rfl | ⟨a, s, rfl⟩
  · cases h
  · unfold lastS
    simp
attribute [local go_sem ↓] ld_man ld_parts ld_part st_part
theorem newest_c0 (m : Mf) (so : Option Addr) (sc : Nat) (co : Option Addr) (cc : Nat) (w : World) (h : MfAt w m so co) (hc : m.sg.length ≤ maxLen) :
    Calls Tryz.prog 66 #[.agg (mcs m so sc co cc)] w fun R w' => R = .returned (.agg #[.int .u64 ((lastS m.sg).1 : Int), .int .u64 ((lastS m.sg).2 : Int)]) ∧ Below w.heap.size w w' := by
  have HP := Lib.hid h.ps
  have HC := Lib.hid hc
  have H0 := Loc.two w 60 122 (mcs m so sc co cc) #[.int .u64 0, .int .u64 0]
  clear h hc
  have l0 := H0.ldO ty_parts 0 rfl 2 (v := .slice so m.sg.length sc) rfl
  by_cases h0 : m.sg.length = 0
  · have e : lastS m.sg = (0, 0) := by rw [List.eq_nil_of_length_eq_zero h0]; rfl
    rw [e]
    have hq : ((m.sg.length : Int) == 0) = true := by rw [h0]; rfl
    obtain ⟨w3, s3, H3, _⟩ := H0.stA ty_part 1 rfl 0 #[.int .u64 0, .int .u64 0] (cs' := #[.int .u64 0, .int .u64 0]) rfl (L' := [(w.heap.size, 60, mcs m so sc co cc), (w.heap.size + 1, 122, #[.int .u64 0, .int .u64 0])]) rfl (Nat.le_of_ble_eq_true rfl) rfl rfl
    clear e h0
    go_enter Tryz.func66, Tryz.ntmps66
    go_upto_region 1 with fail
    generalize (w.alloc (.cells (mcs m so sc co cc) 60)).alloc (.cells #[.int .u64 0, .int .u64 0] 122) = wa at *
    go_wp2_with fail
    refine bodyPost_ret (ret_struct Tryz.underlying122 ty_part _ 2 _ Tryz.results66 (H3.get 1 rfl) rfl rfl) rfl ?_
    exact ⟨rfl, H3.be⟩
  · have hq : ((m.sg.length : Int) == 0) = false := beq_eq_false_iff_ne.2 (by omega)
    have hl : 0 < m.sg.length := by omega
    have hlt : m.sg.length - 1 < m.sg.length := by omega
    obtain ⟨b, o, rfl, hone⟩ := HP.out.one hlt
    have hp := last_at hl
    rw [hp]
    have hld := (hone _ H0.be).1 _ ty_part
    obtain ⟨k, hk⟩ : ∃ k, k = m.sg.length - 1 := ⟨_, rfl⟩
    have hmx : maxLen = 9223372036854775807 := by simp [maxLen]
    have e1 : IntKind.i64.wrap ((m.sg.length : Int) - 1) = (k : Int) := by
      rw [IntWalk.i64_in _ (by have := HC.out; omega)]; omega
    have hkl : (k : Int) < (m.sg.length : Int) := by omega
    obtain ⟨⟨p1, p2⟩, hpp⟩ : ∃ p, p = m.sg[m.sg.length - 1]'hlt := ⟨_, rfl⟩
    rw [← hpp] at hld ⊢
    rw [← hk] at hld
    dsimp only at hld ⊢
    obtain ⟨w3, s3, H3, _⟩ := H0.stA ty_part 1 rfl 0 #[.int .u64 (p1 : Int), .int .u64 (p2 : Int)] (cs' := #[.int .u64 (p1 : Int), .int .u64 (p2 : Int)]) rfl (L' := [(w.heap.size, 60, mcs m (some ⟨b, o, none⟩) sc co cc), (w.heap.size + 1, 122, #[.int .u64 (p1 : Int), .int .u64 (p2 : Int)])]) rfl (Nat.le_of_ble_eq_true rfl) rfl rfl
    clear hone hp hpp h0 hl hlt hk hmx
    go_enter Tryz.func66, Tryz.ntmps66
    go_upto_region 1 with fail
    generalize (w.alloc (.cells (mcs m (some ⟨b, o, none⟩) sc co cc) 60)).alloc (.cells #[.int .u64 0, .int .u64 0] 122) = wa at *
    go_wp2_with fail
    refine bodyPost_ret (ret_struct Tryz.underlying122 ty_part _ 2 _ Tryz.results66 (H3.get 1 rfl) rfl rfl) rfl ?_
    exact ⟨rfl, H3.be⟩
theorem newest_c (m : Mf) (so : Option Addr) (sc : Nat) (co : Option Addr) (cc : Nat) (w : World) (h : MfAt w m so co) (hc : m.sg.length ≤ sc ∧ sc ≤ maxLen) :
    Calls Tryz.prog 66 #[.agg (mcs m so sc co cc)] w fun R w' => R = .returned (.agg #[.int .u64 ((lastS m.sg).1 : Int), .int .u64 ((lastS m.sg).2 : Int)]) ∧ Below w.heap.size w w' := newest_c0 m so sc co cc w h (Nat.le_trans hc.1 hc.2)
attribute [local go_sem ↓] ld_inps st_inps ld_u64 st_u64 ld_pw ld_bool st_bool
theorem owned_c (g o c n ac : Nat) (ao : Option Addr) (w : World) (h1 : w.cell? ⟨g, o, none⟩ = some (.int .u64 (c : Int))) (h2 : w.cell? ⟨g, o + 1, none⟩ = some (.slice ao n ac)) (hn : c + n < 18446744073709551616) :
    Calls Tryz.prog 57 #[.pointer (some ⟨g, o, none⟩)] w fun R w' => R = .returned (.int .u64 ((c + n : Nat) : Int)) ∧ ∃ k, w' = w.drewN k := by
  have l1 := fun k => run_ldC (w := w.drewN k) ty_u64 h1
  have l2 := fun k => run_ldC (w := w.drewN k) ty_inps h2
  have e1 : IntKind.u64.wrap (n : Int) = (n : Int) := IntWalk.u64_in _ (by omega)
  have e2 : IntKind.u64.wrap ((c : Int) + (n : Int)) = ((c + n : Nat) : Int) := by rw [IntWalk.u64_in _ (by omega)]; omega
  clear h1 h2
  obtain ⟨z, hz⟩ : ∃ z : Nat, z = c + n := ⟨_, rfl⟩
  rw [← hz] at e2 ⊢
  clear hz hn
  go_enter Tryz.func57, Tryz.ntmps57
  go_upto_region 1 with fail
  go_quiet (fail)
  go_wp2
  go_ret
  exact ⟨rfl, _, rfl⟩
theorem inAt_row {w : World} {B : Nat} {T : TypeId} {v : Value} {l : List Nat} {n : Nat} (h : w.ownsRow B T 1 v n (l.map fun y : Nat => Value.int .u8 (y : Int))) :
    ∃ ao cap, v = .slice ao l.length cap ∧ InAt w ao l ∧ (∀ a, ao = some a → B ≤ a.block ∧ a.block < w.heap.size) ∧ l.length ≤ cap ∧ cap ≤ maxLen ∧ (ao = none → cap = 0) := by
  have hn : l.length = n := by have := h.1; simpa using this
  subst hn
  have hc := fun g (e : v.ownBlock = some g) => World.ownsRow.cells (g := g) h e
  have hlt := fun g (e : v.ownBlock = some g) => h.lt g e
  rcases h.2 with ⟨rfl, h0⟩ | ⟨b, cap, cur, rfl, _, _, hcap, hmax, _⟩
  · obtain rfl : l = [] := List.eq_nil_of_length_eq_zero h0
    exact ⟨none, 0, rfl, InAt.nil _ _, fun a e => (by cases e), Nat.le_refl _, Nat.zero_le _, fun _ => rfl⟩
  · refine ⟨_, _, rfl, fun j hj => ⟨b, 0, rfl, ?_⟩, fun a e => (by cases e; exact hlt b rfl), hcap, hmax, fun e => (by cases e)⟩
    have := hc b rfl j (.int .u8 ((l[j]'hj : Nat) : Int)) (by simp [hj])
    rw [show (⟨b, 0 + j, none⟩ : Addr) = (⟨b, 0, none⟩ : Addr).add j from by simp [Addr.add]]
    exact this
theorem info_inp' : (Tryz.prog.info? 38).map (fun i => (i.zero, i.size, i.bytes)) = some (some (.int .u8 0), 1, 1) := by kernel_rfl
theorem InAt.news {w : World} {b : Addr} {l : List Nat} (h : InAt w (some b) l) : ∀ j u, (l.map fun y : Nat => Value.int .u8 (y : Int))[j]? = some u → w.cell? (b.add j) = some u := fun j u hu => by
  have hj : j < l.length := by have := (List.getElem?_eq_some_iff.1 hu).1; simpa using this
  obtain ⟨b', o, e, hc⟩ := h j hj
  cases e
  rw [show (⟨b', o, none⟩ : Addr).add j = ⟨b', o + j, none⟩ from by simp [Addr.add], hc, ← hu]
  simp [hj]
def OwnPost (w : World) (g : Nat) (T : TypeId) (cs : Array Value) (o : Nat) (l : List Nat) (R : Ending) (w' : World) : Prop :=
  R = .returned (.tuple #[]) ∧ ∃ ao ac, Cells w' g T (cs.setIfInBounds (o + 1) (.slice ao l.length ac)) ∧ InAt w' ao l ∧ (∀ a, ao = some a → w.heap.size ≤ a.block ∧ a.block < w'.heap.size) ∧ l.length ≤ ac ∧ ac ≤ maxLen ∧ (ao = none → ac = 0) ∧ w.grownBy w' (some g)
theorem set_take {cs : Array Value} {o : Nat} (h : o < cs.size) (v : Value) : (cs.toList.take o ++ [v] ++ cs.toList.drop (o + 1)).toArray = cs.setIfInBounds o v := by
  apply Array.ext'
  simp only [Array.toList_setIfInBounds]
  rw [List.set_eq_take_append_cons_drop, if_pos (by simpa using h)]
  simp
set_option maxHeartbeats 1000000 in
theorem town_c (g o n ac i : Nat) (T : TypeId) (cs : Array Value) (ao : Option Addr) (l : List Nat) (w : World) (hc : Cells w g T cs) (h2 : cs[o + 1]? = some (.slice ao n ac)) (hi : InAt w ao l) (hn : l.length = n) (hac : n ≤ ac) (hl : n ≤ 1000000) (hao : ao = none → n = 0) :
    Calls Tryz.prog 60 #[.pointer (some ⟨g, o, none⟩), .int .u8 (i : Int)] w (OwnPost w g T cs o (l ++ [i])) := by
  subst hn
  obtain ⟨i0, hi0, hz0, hz1, hz2⟩ := info_parts info_inp'
  have HI0 := Lib.hid hi0
  have HZ0 := Lib.hid hz0
  have HZ1 := Lib.hid hz1
  have HZ2 := Lib.hid hz2
  have l2 := run_ldC ty_inps (show w.cell? ⟨g, o + 1, none⟩ = some (.slice ao l.length ac) by rw [hc.cell]; exact h2)
  have hle : (l.length : Int) ≤ (ac : Int) := by omega
  have HC := Lib.hid hc
  have HIN := Lib.hid hi
  have HL := Lib.hid hl
  have HAO := Lib.hid hao
  have ho : o + 1 < cs.size := (Array.getElem?_eq_some_iff.1 h2).1
  have HO := Lib.hid ho
  obtain ⟨Q, hQ⟩ : ∃ Q : Ending → World → Prop, Q = OwnPost w g T cs o (l ++ [i]) := ⟨_, rfl⟩
  rw [← hQ]
  have HQ := Lib.hid hQ
  clear hi0 hz0 hz1 hz2 hc hi hl hao ho h2 hQ hac
  have tail : ∀ (ao2 : Option Addr) (k : Nat), Hid (∀ v' w1, w1.ownsRow (w.alloc (.cells #[.int .u8 (i : Int)] 38)).heap.size 38 1 v' (l.length + 1) ((l.map fun y : Nat => Value.int .u8 (y : Int)) ++ [.int .u8 (i : Int)]) → (w.alloc (.cells #[.int .u8 (i : Int)] 38)).grownBy w1 none →
      ∃ ao2 ac2 n2 w2, v' = .slice ao2 n2 ac2 ∧ (stT 47 (.pointer (some ⟨g, o + 1, none⟩)) v').run Tryz.prog w1 = .ok () w2 ∧ Q (.returned (.tuple #[])) w2) := fun ao2 k v' w1 hown hgr => by
    have hown2 : w1.ownsRow (w.alloc (.cells #[.int .u8 (i : Int)] 38)).heap.size 38 1 v' (l.length + 1) ((l ++ [i]).map fun y : Nat => Value.int .u8 (y : Int)) := by simpa using hown
    obtain ⟨ao2, ac2, e, h1, h3, h4, h5, h6⟩ := inAt_row hown2
    have hg1 : w.grownBy w1 none := (grown_alloc w _).trans hgr
    have hb1 : Below w.heap.size w w1 := below_of_grown hg1
    have hlt := HC.out.lt
    have hc1 : Cells w1 g T cs := HC.out.grown hg1 (by simp)
    obtain ⟨w2, s2, c2, q2, z2⟩ := cells_st ty_inps hc1 (o + 1) HO.out (.slice ao2 (l ++ [i]).length ac2) rfl rfl rfl
    rw [set_take HO.out] at c2
    have hsz : (w.alloc (.cells #[.int .u8 (i : Int)] 38)).heap.size = w.heap.size + 1 := by simp
    refine ⟨ao2, ac2, (l ++ [i]).length, w2, e, by rw [e]; exact s2, ?_⟩
    rw [HQ.out]
    refine ⟨rfl, ao2, ac2, c2, h1.tu (Tu.of_same q2) (fun _ a e => by have := h3 a e; omega), fun a e => by have := h3 a e; omega, h4, h5, h6, ?_⟩
    exact ⟨q2.os.trans hb1.os, q2.tape.trans hb1.tape, q2.output.trans hb1.output, Nat.le_trans hb1.size q2.size, fun k hk hne => (q2.block k (Nat.lt_of_lt_of_le hk hb1.size) hne).trans (hb1.block k hk)⟩
  have TL := (tail none 0).out
  clear tail
  have hmx : maxLen = 9223372036854775807 := by simp [maxLen]
  have HMX := Lib.hid hmx
  clear hmx
  cases ao with
  | none =>
    have h0 := HAO.out rfl
    obtain rfl : l = [] := List.eq_nil_of_length_eq_zero h0
    go_enter Tryz.func60, Tryz.ntmps60
    go_wp2_with (at_builtin; refine wpList_append_grows _ rfl (.tmp 17) (.tmp 19) 47 rfl 38 i0 (.int .u8 0) 1 1 Tryz.underlying47 HI0.out HZ0.out HZ1.out HZ2.out rfl (by decide) none 0 0 [] (by simp [Act.eval]) (fun _ => ⟨rfl, rfl⟩) rfl (fun b e => by cases e) ⟨w.heap.size, 0, none⟩ 1 1 [.int .u8 (i : Int)] (by simp [Act.eval]) rfl (cell_one_new _ _ _) (by simp [Value.oneCell']) (by omega) (by have := HMX.out; omega) (by omega) ?_; intro v' w1 hown hgr)
    obtain ⟨ao2, ac2, n2, w2, rfl, s2, hq⟩ := TL v' w1 hown hgr
    have HQ2 := Lib.hid hq
    clear hq hown hgr TL
    rw [s2]
    go_wp2
    go_end0
    exact HQ2.out
  | some b =>
    go_enter Tryz.func60, Tryz.ntmps60
    go_wp2_with (at_builtin; refine wpList_append_grows _ rfl (.tmp 17) (.tmp 19) 47 rfl 38 i0 (.int .u8 0) 1 1 Tryz.underlying47 HI0.out HZ0.out HZ1.out HZ2.out rfl (by decide) (some b) l.length l.length (l.map fun y : Nat => Value.int .u8 (y : Int)) (by simp [Act.eval]) (fun e => by cases e) (by simp) (fun b' e j u hu => by cases e; exact (HIN.out.to (below_of_grown (grown_alloc w _))).news j u hu) ⟨w.heap.size, 0, none⟩ 1 1 [.int .u8 (i : Int)] (by simp [Act.eval]) rfl (cell_one_new _ _ _) (by simp [Value.oneCell']) (by omega) (by have := HMX.out; have := HL.out; omega) (by have := HL.out; omega) ?_; intro v' w1 hown hgr)
    obtain ⟨ao2, ac2, n2, w2, rfl, s2, hq⟩ := TL v' w1 hown hgr
    have HQ2 := Lib.hid hq
    clear hq hown hgr TL
    rw [s2]
    go_wp2
    go_end0
    exact HQ2.out
def CfPost (w : World) (g : Nat) (T : TypeId) (cs : Array Value) (o c : Nat) (ao : Option Addr) (n ac : Nat) (R : Ending) (w' : World) : Prop :=
  R = .returned (.tuple #[]) ∧ ∃ ao', Cells w' g T ((cs.setIfInBounds o (.int .u64 ((c + 1 : Nat) : Int))).setIfInBounds (o + 1) (.slice ao' (n - 1) (ac - 1))) ∧ (∀ b k, ao = some ⟨b, k, none⟩ → (ac = 1 ∧ ao' = some ⟨b, k, none⟩) ∨ (ac ≠ 1 ∧ ao' = some ⟨b, k + 1, none⟩)) ∧ w.grownBy w' (some g)
set_option maxHeartbeats 1000000 in
theorem tconfirm_c (g o c n ac b k : Nat) (T : TypeId) (cs : Array Value) (w : World) (hc : Cells w g T cs) (h1 : cs[o]? = some (.int .u64 (c : Int))) (h2 : cs[o + 1]? = some (.slice (some ⟨b, k, none⟩) n ac)) (hn : 0 < n) (hac : n ≤ ac) (hm : ac ≤ maxLen) (hc64 : c + 1 < 18446744073709551616) :
    Calls Tryz.prog 62 #[.pointer (some ⟨g, o, none⟩)] w (CfPost w g T cs o c (some ⟨b, k, none⟩) n ac) := by
  have ho : o + 1 < cs.size := (Array.getElem?_eq_some_iff.1 h2).1
  have l1 := run_ldC ty_u64 (show w.cell? ⟨g, o, none⟩ = some (.int .u64 (c : Int)) by rw [hc.cell]; exact h1)
  have e1 : IntKind.u64.wrap ((c : Int) + 1) = ((c + 1 : Nat) : Int) := by rw [IntWalk.u64_in _ (by omega)]; omega
  obtain ⟨w1, s1, c1, q1, z1⟩ := cells_st ty_u64 hc o (by omega) (.int .u64 ((c + 1 : Nat) : Int)) rfl rfl rfl
  rw [set_take (by omega)] at c1
  have l2 := run_ldC ty_inps (show w1.cell? ⟨g, o + 1, none⟩ = some (.slice (some ⟨b, k, none⟩) n ac) by rw [c1.cell, Array.getElem?_setIfInBounds, if_neg (by omega)]; exact h2)
  obtain ⟨Q, hQ⟩ : ∃ Q : Ending → World → Prop, Q = CfPost w g T cs o c (some ⟨b, k, none⟩) n ac := ⟨_, rfl⟩
  rw [← hQ]
  have main : Hid (∀ (ao' : Option Addr) (m1 m : Nat), n - 1 = m1 → ac - 1 = m → ((ac = 1 ∧ ao' = some ⟨b, k, none⟩) ∨ (ac ≠ 1 ∧ ao' = some ⟨b, k + 1, none⟩)) → ∃ w2, (stT 47 (.pointer (some ⟨g, o + 1, none⟩)) (.slice ao' m1 m)).run Tryz.prog w1 = .ok () w2 ∧ Q (.returned (.tuple #[])) w2) := fun ao' m1 m hm1 hm2 h => by
    subst hm1 hm2
    obtain ⟨w2, s2, c2, q2, z2⟩ := cells_st ty_inps c1 (o + 1) (by simpa using ho) (.slice ao' (n - 1) (ac - 1)) rfl rfl rfl
    rw [set_take (by simpa using ho)] at c2
    refine ⟨w2, s2, ?_⟩
    rw [hQ]
    refine ⟨rfl, ao', c2, fun b' k' e => by cases e; exact h, ⟨q2.os.trans q1.os, q2.tape.trans q1.tape, q2.output.trans q1.output, Nat.le_trans q1.size q2.size, fun i hi hne => (q2.block i (Nat.lt_of_lt_of_le hi q1.size) hne).trans (q1.block i hi hne)⟩⟩
  obtain ⟨z, hz⟩ : ∃ z : Nat, z = c + 1 := ⟨_, rfl⟩
  rw [← hz] at e1 s1
  have hmx : maxLen = 9223372036854775807 := by simp [maxLen]
  have i1 : (1 : Int) ≤ (n : Int) := by omega
  have i2 : (1 : Int) ≤ (ac : Int) := by omega
  have i3 : IntKind.i64.wrap ((n : Int) - 1) = ((n - 1 : Nat) : Int) := by rw [IntWalk.i64_in _ (by omega)]; omega
  have i4 : IntKind.i64.wrap ((ac : Int) - 1) = ((ac - 1 : Nat) : Int) := by rw [IntWalk.i64_in _ (by omega)]; omega
  have hnac : (n : Int) ≤ (ac : Int) := by omega
  clear hQ hz hc h1 h2 c1 q1 z1 hmx
  by_cases hk : ac = 1
  · subst hk
    obtain rfl : n = 1 := by omega
    obtain ⟨w2, s2, hq⟩ := main.out _ 0 0 rfl rfl (.inl ⟨rfl, rfl⟩)
    have HQ := Lib.hid hq
    clear hq main
    go_enter Tryz.func62, Tryz.ntmps62
    go_wp2
    go_end0
    exact HQ.out
  · obtain ⟨w2, s2, hq⟩ := main.out _ _ _ rfl rfl (.inr ⟨hk, rfl⟩)
    have HQ := Lib.hid hq
    clear hq main
    go_enter Tryz.func62, Tryz.ntmps62
    go_wp2
    go_end0
    exact HQ.out
attribute [local go_sem ↓] ld_rec st_rec ld_pair
theorem ownRec_c (f i : Nat) (w : World) : Calls Tryz.prog 59 #[.int .u64 (f : Int), .int .u8 (i : Int)] w fun E w' => E = .returned (.agg (rcs (rO f i))) ∧ Below w.heap.size w w' := by
  have H0 := Lib.hid (Loc.one w 114 #[.int .i64 0, .int .u64 0, .int .u8 0, .int .u8 0, .int .u8 0, .int .u64 0, .int .u64 0, .int .u64 0, .int .u8 0])
  go_enter Tryz.func59, Tryz.ntmps59
  go_upto_region 1 with fail
  generalize w.alloc (.cells #[.int .i64 0, .int .u64 0, .int .u8 0, .int .u8 0, .int .u8 0, .int .u64 0, .int .u64 0, .int .u64 0, .int .u8 0] 114) = wa at *
  obtain ⟨w3, s3, h3, q3⟩ := H0.out.stA ty_rec 0 rfl 0 #[.int .i64 1, .int .u64 (f : Int), .int .u8 (i : Int), .int .u8 0, .int .u8 0, .int .u64 0, .int .u64 0, .int .u64 0, .int .u8 0] (cs' := rcs (rO f i)) (by simp [rcs, rO]) (L' := [(w.heap.size, 114, rcs (rO f i))]) rfl (Nat.le_of_ble_eq_true rfl) rfl (by simp [Value.oneCell'])
  have H3 := Lib.hid h3
  clear h3 q3
  go_wp2
  refine bodyPost_ret (ret_struct Tryz.underlying114 ty_rec _ 4 _ Tryz.results59 (H3.out.get 0 rfl) rfl rfl) rfl ?_
  exact ⟨rfl, H3.out.be⟩
theorem sureRec_c (f a b : Nat) (w : World) : Calls Tryz.prog 61 #[.int .u64 (f : Int), .agg #[.int .u8 (a : Int), .int .u8 (b : Int)]] w fun E w' => E = .returned (.agg (rcs (rS f a b))) ∧ Below w.heap.size w w' := by
  have H0 := Lib.hid (Loc.two w 40 114 #[.int .u8 (a : Int), .int .u8 (b : Int)] #[.int .i64 0, .int .u64 0, .int .u8 0, .int .u8 0, .int .u8 0, .int .u64 0, .int .u64 0, .int .u64 0, .int .u8 0])
  go_enter Tryz.func61, Tryz.ntmps61
  go_upto_region 1 with fail
  generalize (w.alloc (.cells #[.int .u8 (a : Int), .int .u8 (b : Int)] 40)).alloc (.cells #[.int .i64 0, .int .u64 0, .int .u8 0, .int .u8 0, .int .u8 0, .int .u64 0, .int .u64 0, .int .u64 0, .int .u8 0] 114) = wa at *
  have l0 := H0.out.ldA ty_pair 0 rfl 0 (vs := #[.int .u8 (a : Int), .int .u8 (b : Int)]) rfl (Nat.le_of_ble_eq_true rfl)
  obtain ⟨w3, s3, h3, q3⟩ := H0.out.stA ty_rec 1 rfl 0 #[.int .i64 2, .int .u64 (f : Int), .int .u8 0, .int .u8 (a : Int), .int .u8 (b : Int), .int .u64 0, .int .u64 0, .int .u64 0, .int .u8 0] (cs' := rcs (rS f a b)) (by simp [rcs, rS]) (L' := [(w.heap.size, 40, #[.int .u8 (a : Int), .int .u8 (b : Int)]), (w.heap.size + 1, 114, rcs (rS f a b))]) rfl (Nat.le_of_ble_eq_true rfl) rfl (by simp [Value.oneCell'])
  have H3 := Lib.hid h3
  clear h3 q3
  go_wp2
  refine bodyPost_ret (ret_struct Tryz.underlying114 ty_rec _ 4 _ Tryz.results61 (H3.out.get 1 rfl) rfl rfl) rfl ?_
  exact ⟨rfl, H3.out.be⟩
attribute [local go_sem ↓] bs_m ld_recs ld_input
attribute [local go_sem] bs_rec
def RlPost (l : List Rc) (w : World) (R : Ending) (w' : World) : Prop := ∃ ao ac, R = .returned (.slice ao l.length ac) ∧ RcsAt w' ao l ∧ (∀ a, ao = some a → w.heap.size ≤ a.block) ∧ l.length ≤ ac ∧ (ac ≤ maxLen ∧ (ao = none → ac = 0)) ∧ Below w.heap.size w w'
set_option maxHeartbeats 2000000 in
theorem unconf_c (g o c ac : Nat) (ao : Option Addr) (l : List Nat) (w : World) (h1 : w.cell? ⟨g, o, none⟩ = some (.int .u64 (c : Int))) (h2 : w.cell? ⟨g, o + 1, none⟩ = some (.slice ao l.length ac)) (hi : InAt w ao l) (hn : c + l.length < 18446744073709551616) (hl : l.length ≤ 200000) :
    Calls Tryz.prog 72 #[.pointer (some ⟨g, o, none⟩)] w (RlPost (oRecs c l) w) := by
  have HIN := Lib.hid hi
  have HL := Lib.hid hl
  have HN := Lib.hid hn
  have HC := Lib.hid h1
  have l2 := run_ldC ty_inps h2
  have hg := World.block_lt_of_cell? w _ h1
  have HG := Lib.hid hg
  obtain ⟨Q, hQ⟩ : ∃ Q : Ending → World → Prop, Q = RlPost (oRecs c l) w := ⟨_, rfl⟩
  rw [← hQ]
  have HQ := Lib.hid hQ
  clear hi hn h1 h2 hg hQ
  go_enter Tryz.func72, Tryz.ntmps72
  go_wp2
  clear l2
  go_loopw [3, 11] (fun lv iv wr => ∃ (k : Nat) (a1 : Option Addr) (c1 : Nat), k ≤ l.length ∧ iv = .int .i64 (k : Int) ∧ lv = .slice a1 k c1 ∧ Hid (Rcr 114 w.heap.size wr [] a1 k c1 (oRecs c (l.take k))) ∧ Hid (Loc w.heap.size w wr [])) (fun _ iv _ => l.length - (intOf iv).toNat)
  case atStart => exact ⟨0, none, 0, Nat.zero_le _, rfl, rfl, by show Rcr _ _ _ _ _ _ _ _; rw [List.take_zero]; exact Rcr.none _ _ _ _ (fun _ h => by cases h), Loc.nil (Nat.le_refl _)⟩
  case round =>
    obtain ⟨k, a1, c1, hk, rfl, rfl, HR, HLc⟩ := hrel
    by_cases hlt : k < l.length
    · obtain ⟨b, oo, hb, hcell⟩ := HIN.out k hlt
      subst hb
      have HLT := Lib.hid hlt
      have l1 := run_ldC ty_input ((Tu.new (S := fun _ => False) HLc.out.be).cell hcell (fun h => h))
      have l3 := run_ldC ty_u64 ((Tu.new (S := fun _ => False) HLc.out.be).cell HC.out (fun h => h))
      have e0 : IntKind.u64.wrap (k : Int) = (k : Int) := IntWalk.u64_in _ (by have := HN.out; omega)
      have e1 : IntKind.u64.wrap ((c : Int) + (k : Int)) = ((c + k : Nat) : Int) := by rw [IntWalk.u64_in _ (by have := HN.out; omega)]; omega
      have HTK : Hid (oRecs c (l.take (k + 1)) = oRecs c (l.take k) ++ [rO (c + k) (l[k]'hlt)]) := by
        show _ = _
        rw [List.take_succ_eq_append_getElem hlt, oRecs_snoc, List.length_take, Nat.min_eq_left hk]
      obtain ⟨z, hz⟩ : ∃ z, z = l[k]'hlt := ⟨_, rfl⟩
      obtain ⟨f, hf⟩ : ∃ f : Nat, f = c + k := ⟨_, rfl⟩
      rw [← hz] at l1 HTK
      rw [← hf] at e1 HTK
      clear hz hf hcell
      go_wp2_with fail
      refine (ownRec_c f z wr).mono ?_
      rintro E w1 ⟨rfl, hb1⟩
      have HR1 := Lib.hid (HR.out.to hb1)
      have HL1 := Lib.hid (HLc.out.to hb1)
      clear hb1 l1 l3 e0 e1 HR HLc
      go_wp2_with (at_builtin; refine wpList_append_rec Tryz.underlying127 info_rec rfl _ _ rfl (by simp [Act.eval]) (rO f z) (by simp [Act.eval]) HR1.out HL1.out (Nat.le_refl _) HL1.out.size (by simp) (by have := HLT.out; have := HL.out; omega) ?_; intro r7 cap7 w7 hR7 hL7; have HR7 := Lib.hid hR7; have HL7 := Lib.hid hL7; clear hR7 hL7)
      go_wp2
      go_roundw
      case rel => exact ⟨k + 1, _, _, HLT.out, by go_num, rfl, by show Rcr _ _ _ _ _ _ _ _; rw [HTK.out]; exact HR7.out, HL7.out⟩
      case measure => have := HLT.out; simp [intOf]; omega
    · obtain rfl : k = l.length := by omega
      have HF : Hid (Q (.returned (.slice a1 l.length c1)) wr) := by
        show Q _ _
        have hr := HR.out
        rw [List.take_length] at hr
        obtain ⟨t1, t2, t3, t4, t5⟩ := hr.told
        rw [HQ.out]
        exact ⟨a1, c1, by rw [oRecs_len], t1, fun a e => (t2 a e).1, by rw [oRecs_len]; exact t3, ⟨t4, t5⟩, HLc.out.be⟩
      go_wp2
      exact HF.out
end Go.Proofs.YtgeaacabpnepmaaGreatDoor
/- hold, works, the numbers. -/
namespace Go.Proofs.YtgeaacabpnepmaaGreatDoor
open Go.RowKit
set_option linter.unusedVariables false
set_option linter.unusedSimpArgs false
set_option maxRecDepth 20000

section
variable {V : Nat → Prop} {w : World} {gj gp q kc : Nat} {dv : Value} {ko : Option Addr} {p : Pw} {j : Jn}
def JPost (V : Nat → Prop) (w : World) (gj gp q : Nat) (dv : Value) (ko : Option Addr) (kc : Nat) (e : Int) (p : Pw) (j : Jn) : Ending → World → Prop := fun R w' =>
  R = .returned (.int .i64 e) ∧ ∃ V', JC V' w' gj gp q dv ko kc p j ∧ JTo V w V' w'
attribute [local go_sem ↓] ld_bool st_bool ld_pw ld_u64 ld_inps ld_int
theorem hold_c (e : Int) (w : World) (h : JC V w gj gp q dv ko kc p j) : Calls Tryz.prog 63 #[.pointer (some ⟨gj, 0, none⟩), .int .i64 e] w (JPost V w gj gp q dv ko kc e p (j.hold e)) := by
  obtain ⟨S, ao, ac, so, sc, co, cc, hx⟩ := h
  have hc := hx.jn.blk
  obtain ⟨w1, s1, c1, q1, z1⟩ := cells_st ty_bool hc 11 (Nat.le_of_ble_eq_true rfl) (.bool (decide (e ≠ 0))) rfl rfl rfl
  have hf := hx.jn.fit
  have HF := Lib.hid (hx.cell (j' := j.hold e) q1 c1 ⟨hf.o, hf.ah, hf.ahl, hf.sy, hf.os, hf.ap, hf.rows, hf.pl, hf.sgl, hf.ckl⟩ rfl rfl)
  have hd : (e != 0) = decide (e ≠ 0) := by by_cases h : e = 0 <;> simp [h]
  obtain ⟨Q, hQ⟩ : ∃ Q : Ending → World → Prop, Q = JPost V w gj gp q dv ko kc e p (j.hold e) := ⟨_, rfl⟩
  rw [← hQ]
  have HQ := Lib.hid hQ
  obtain ⟨b, hb⟩ : ∃ b, b = decide (e ≠ 0) := ⟨_, rfl⟩
  rw [← hb] at s1 hd
  clear hx hc c1 q1 z1 hf hQ hb
  go_enter Tryz.func63, Tryz.ntmps63
  go_wp2
  rw [HQ.out]
  exact ⟨rfl, HF.out⟩
theorem works_c (w : World) (h : JC V w gj gp q dv ko kc p j) : Calls Tryz.prog 55 #[.pointer (some ⟨gj, 0, none⟩)] w fun R w' => R = .returned (.bool (!j.br)) ∧ w = w' := by
  obtain ⟨S, ao, ac, so, sc, co, cc, hx⟩ := h
  have l1 := run_ldO ty_pw hx.jn.blk 0 (v := .pointer (some ⟨gp, 0, none⟩)) rfl
  have l2 := run_ldO ty_bool hx.jn.blk 11 (v := .bool j.br) rfl
  clear hx
  obtain ⟨b, hb⟩ : ∃ b, b = j.br := ⟨_, rfl⟩
  rw [← hb] at l2 ⊢
  clear hb
  go_enter Tryz.func55, Tryz.ntmps55
  go_wp2
  go_ret
  exact ⟨by simp, rfl⟩
theorem jcount_c (w : World) (h : JC V w gj gp q dv ko kc p j) : Calls Tryz.prog 18 #[.pointer (some ⟨gj, 0, none⟩)] w fun R w' => R = .returned (.int .u64 (j.c : Int)) ∧ w = w' := by
  obtain ⟨S, ao, ac, so, sc, co, cc, hx⟩ := h
  have l1 := run_ldO ty_u64 hx.jn.blk 2 (v := .int .u64 (j.c : Int)) rfl
  clear hx
  go_enter Tryz.func18, Tryz.ntmps18
  go_wp2
  go_ret
  exact ⟨rfl, rfl⟩
theorem jsynced_c (w : World) (h : JC V w gj gp q dv ko kc p j) : Calls Tryz.prog 19 #[.pointer (some ⟨gj, 0, none⟩)] w fun R w' => R = .returned (.int .u64 (j.sy : Int)) ∧ w = w' := by
  obtain ⟨S, ao, ac, so, sc, co, cc, hx⟩ := h
  have l1 := run_ldO ty_u64 hx.jn.blk 4 (v := .int .u64 (j.sy : Int)) rfl
  clear hx
  go_enter Tryz.func19, Tryz.ntmps19
  go_wp2
  go_ret
  exact ⟨rfl, rfl⟩
theorem JC.owned (w : World) (h : JC V w gj gp q dv ko kc p j) : Calls Tryz.prog 57 #[.pointer (some ⟨gj, 2, none⟩)] w fun R w' => R = .returned (.int .u64 (j.ow : Int)) ∧ ∃ k, w' = w.drewN k := by
  obtain ⟨S, ao, ac, so, sc, co, cc, hx⟩ := h
  exact owned_c gj 2 j.c j.ah.length ac ao w (by rw [hx.jn.blk.cell]; rfl) (by rw [hx.jn.blk.cell]; rfl) hx.jn.fit.o
end
end Go.Proofs.YtgeaacabpnepmaaGreatDoor
