/- The document's manifest of the program's; few; the chapter's manifest; awake. -/
import Derived.Test.YtakejacamkdncaaGreatDoorMl
import Derived.Laws.AppendOwnNone
namespace Go.Proofs.YtakejacamkdncaaGreatDoor
open Go.RowKit
set_option linter.unusedVariables false
set_option linter.unusedSimpArgs false
set_option maxRecDepth 20000

theorem Gnl_get : ∀ (l : List Nat) (j : Nat), (Gnl l)[j]? = Option.map (fun c : Nat => Value.int .u64 ((c : Nat) : Int)) l[j]?
  | [], j => by simp [Gnl]
  | c :: l, 0 => rfl
  | c :: l, j + 1 => by
    have e : Gnl (c :: l) = .int .u64 (c : Int) :: Gnl l := rfl
    rw [e, List.getElem?_cons_succ, List.getElem?_cons_succ, Gnl_get l j]
theorem ns_news {w : World} {b o : Nat} {l : List Nat} (h : NsAt w (some ⟨b, o, none⟩) l) : ∀ j u, (Gnl l)[j]? = some u → w.cell? ((⟨b, o, none⟩ : Addr).add j) = some u := fun j u hu => by
  rw [Gnl_get] at hu
  obtain ⟨c, hc, rfl⟩ := Option.map_eq_some_iff.1 hu
  obtain ⟨hj, rfl⟩ := List.getElem?_eq_some_iff.1 hc
  obtain ⟨b', o', e, h1⟩ := h j hj
  cases e
  have h2 := h1 0 _ rfl
  have ea : (⟨b, o, none⟩ : Addr).add j = ⟨b, o + j * 1 + 0, none⟩ := by unfold Addr.add; split <;> simp_all
  rw [ea]; exact h2
/-- append(nil, l...) of numbers. -/
theorem wpList_append_nums {w : World} {ops : Array Oper} {rest : List Oper} {o : Oper} {a : Act} {Q : Exit → Act → World → Prop} (hgd : o.guard = none) (s x : Operand)
    (ho : o.op = .call { callee := .builtin .append, args := #[s, x], argTypes := #[32, 32] }) (ao : Option Addr) (cap : Nat) (l : List Nat) (hs : a.eval s = .slice none 0 0) (hx : a.eval x = .slice ao l.length cap)
    (hsh : NsAt w ao l) (hn : ao = none → cap = 0) (hl : l.length ≤ 1000000)
    (h : ∀ ao' cap' w', w'.ownsRow w.heap.size 30 1 (.slice ao' l.length cap') l.length (Gnl l) → w.grownBy w' none → wpList Tryz.prog ops Q rest (a.put o.dst (.slice ao' l.length cap')) w') :
    wpList Tryz.prog ops Q (o :: rest) a w := by
  obtain ⟨i0, hi0, hz0, hz1, hz2⟩ := info_parts info_num
  have hown : w.ownsRow w.heap.size 30 1 (.slice none 0 0) 0 [] := World.ownsRow_nil _ _ _ _
  by_cases h0 : l.length = 0
  · have e := List.eq_nil_of_length_eq_zero h0
    subst e
    cases ao with
    | none =>
      obtain rfl := hn rfl
      exact wpList_append_own_none hgd s x 32 ho w.heap.size 30 i0 1 Tryz.underlying32 hi0 (.slice none 0 0) 0 [] hs hown hx (h none 0 w hown (grown_refl _ _))
    | some ad =>
      refine wpList_append_own w hgd s x 32 ho w.heap.size 30 i0 (.int .u64 0) 1 8 Tryz.underlying32 hi0 hz0 hz1 hz2 rfl (by decide) (.slice none 0 0) 0 [] hs hown ad 0 cap [] hx rfl (by simp) (by simp) (by simp [maxLen]) (by omega) (Nat.le_refl _) ?_
      intro v' w1 hown1 hgr hnil
      obtain rfl := hnil.2 ⟨rfl, rfl⟩
      exact h none 0 w1 hown1 hgr
  · obtain ⟨b, o', rfl, _⟩ := hsh 0 (by omega)
    refine wpList_append_lies w hgd s x 32 ho w.heap.size 30 i0 (.int .u64 0) 1 8 Tryz.underlying32 hi0 hz0 hz1 hz2 rfl (by decide) (.slice none 0 0) 0 [] hs hown ⟨b, o', none⟩ l.length cap (Gnl l) hx (Gnl_len l) (ns_news hsh) (Gnl_one l) (by omega) (by simp only [maxLen]; omega) (by omega) (Nat.le_refl _) _ rfl ?_
    intro g' cap' w1 hown1 hgr hat hlt1
    rw [Nat.zero_add, List.nil_append] at hown1
    rw [Nat.zero_add]
    exact h _ cap' w1 hown1 hgr
/-- All the numbers at once. -/
theorem GS.nums {TM TP : TypeId} {w wr w' : World} {L0 : List (Nat × TypeId × Array Value)} {g sc cap' : Nat} {e y : Nat} {sg : List (Nat × Nat)} {so ao' : Option Addr} {l : List Nat} (h : GS TM TP w L0 g ⟨e, y, sg, []⟩ so sc none 0 wr) (hr : w'.ownsRow wr.heap.size 30 1 (.slice ao' l.length cap') l.length (Gnl l)) (hg : wr.grownBy w' none) :
    ∃ w2, (stT 32 (.pointer (some ⟨g, 3, none⟩)) (.slice ao' l.length cap')).run Tryz.prog w' = .ok () w2 ∧ GS TM TP w L0 g ⟨e, y, sg, l⟩ so sc ao' cap' w2 := by
  have h1 := h.to (below_of_grown hg)
  obtain ⟨w2, s2, H2, q2⟩ := h1.L.stO ty_nums L0.length (gs_at L0) 3 (.slice ao' l.length cap') (cs' := mcs ⟨e, y, sg, l⟩ so sc ao' cap') (by simp [mcs]) (L' := L0 ++ [(g, TM, mcs ⟨e, y, sg, l⟩ so sc ao' cap')]) (gs_set L0) (Nat.le_of_ble_eq_true rfl) rfl rfl
  have hG : Grw 30 1 w.heap.size w' (L0.map (·.1) ++ [g]) ao' l.length cap' (Gnl l) := ⟨own_low hr h.L.size, fun b hb e => by
    have h2 := (hr.lt b e).1
    have h3 := h.ns.lo b hb
    omega, h1.ns.lo⟩
  exact ⟨w2, s2, H2, h1.ps.turn (by simp) q2, hG.turn (by simp) q2⟩
theorem wlp {w : World} : w.heap.size + 1 ≠ w.heap.size := by omega
section
attribute [local go_sem ↓] ld_man ld_parts ld_nums
theorem few_c (m : Mf) (so : Option Addr) (sc : Nat) (co : Option Addr) (cc : Nat) (w : World) (h1 : m.sg.length ≤ maxLen) (h2 : m.ck.length ≤ maxLen) :
    Calls Tryz.prog 9 #[.agg (mcs m so sc co cc)] w fun R w' => R = .returned (.bool (fewB m)) ∧ Below w.heap.size w w' := by
  have H0 := Loc.one w 34 (mcs m so sc co cc)
  simp only [maxLen] at h1 h2
  obtain ⟨z, hz⟩ : ∃ z, z = fewB m := ⟨_, rfl⟩
  rw [← hz]
  have HZ := Lib.hid hz
  clear hz
  go_enter Tryz.func9, Tryz.ntmps9
  go_upto_region 1 with fail
  generalize w.alloc (.cells (mcs m so sc co cc) 34) = wa at *
  have l0 := H0.ldO ty_parts 0 rfl 2 (v := .slice so m.sg.length sc) rfl
  have l1 := H0.ldO ty_nums 0 rfl 3 (v := .slice co m.ck.length cc) rfl
  by_cases c0 : m.sg.length ≤ 50
  · have i0 : (m.sg.length : Int) ≤ 50 := by omega
    by_cases c1 : m.ck.length ≤ 50
    · have i1 : (m.ck.length : Int) ≤ 50 := by omega
      have E := Lib.hid (show z = true by rw [HZ.out]; unfold fewB; rw [decide_eq_true c0, decide_eq_true c1]; rfl)
      clear c0 c1
      go_wp2_with fail
      go_ret
      exact ⟨by rw [E.out]; rfl, H0.be⟩
    · have i1 : ¬ (m.ck.length : Int) ≤ 50 := by omega
      have E := Lib.hid (show z = false by rw [HZ.out]; unfold fewB; rw [decide_eq_false c1]; simp)
      clear c0 c1
      go_wp2_with fail
      go_ret
      exact ⟨by rw [E.out]; rfl, H0.be⟩
  · have i0 : ¬ (m.sg.length : Int) ≤ 50 := by omega
    have E := Lib.hid (show z = false by rw [HZ.out]; unfold fewB; rw [decide_eq_false c0]; rfl)
    clear c0
    go_wp2_with fail
    go_ret
    exact ⟨by rw [E.out]; rfl, H0.be⟩
end
/-- A manifest as a result, to be read. -/
def MadePost (w : World) (m : Mf) (R : Ending) (w' : World) : Prop := ∃ so sc co cc, R = .returned (.agg (mcs m so sc co cc)) ∧ MfAt w' m so co ∧ Below w.heap.size w w'
section
attribute [local go_sem ↓] ld_man ld_part ld_parts ld_nums ld_u64 ld_u8 ld_rman st_rman ld_rparts st_rparts st_nums
set_option maxHeartbeats 8000000 in
theorem theirs_c (m : Mf) (so : Option Addr) (sc : Nat) (co : Option Addr) (cc : Nat) (w : World) (h : MfAt w m so co) (hn : co = none → cc = 0) (h1 : m.sg.length ≤ 500) (h2 : m.ck.length ≤ 500) :
    Calls Tryz.prog 13 #[.agg (mcs m so sc co cc)] w (MadePost w m) := by
  have H0 := Loc.two w 34 48 (mcs m so sc co cc) (mcs mz none 0 none 0)
  have HA := Lib.hid h
  have HN := Lib.hid hn
  have he := h.fit.ep
  have hp := h.fit.pl
  obtain ⟨Q, hQ⟩ : ∃ Q, Q = MadePost w m := ⟨_, rfl⟩
  rw [← hQ]
  have HQ := Lib.hid hQ
  clear hQ h hn
  go_enter Tryz.func13, Tryz.ntmps13
  go_upto_region 1 with fail
  rw [show (#[.int .u64 0, .int .u8 0, .slice none 0 0, .slice none 0 0] : Array Value) = mcs mz none 0 none 0 from rfl]
  generalize (w.alloc (.cells (mcs m so sc co cc) 34)).alloc (.cells (mcs mz none 0 none 0) 48) = wa at *
  have l0 := H0.ldO ty_u64 0 rfl 0 (v := .int .u64 (m.ep : Int)) rfl
  have l1 := H0.ldO ty_u8 0 rfl 1 (v := .int .u8 (m.pl : Int)) rfl
  obtain ⟨g3, w1, z1, s1, H1, _⟩ := H0.newA ty_rman #[.int .u64 0, .int .u8 0, .slice none 0 0, .slice none 0 0] #[.int .u64 (m.ep : Int), .int .u8 (m.pl : Int), .slice none 0 0, .slice none 0 0] rfl rfl rfl
  have G1 := Lib.hid (GS.start (TP := 102) (m := ⟨m.ep, m.pl, [], []⟩) (L0 := [(w.heap.size, 34, mcs m so sc co cc), (w.heap.size + 1, 48, mcs mz none 0 none 0)]) H1)
  clear H1
  go_wp2
  clear s1 l0 l1 z1 H0
  go_loopw [4] (fun i wr => ∃ (k : Nat) (so2 : Option Addr) (sc2 : Nat), k ≤ m.sg.length ∧ i = .int .i64 (k : Int) ∧ Hid (GS 48 102 w [(w.heap.size, 34, mcs m so sc co cc), (w.heap.size + 1, 48, mcs mz none 0 none 0)] g3 ⟨m.ep, m.pl, m.sg.take k, []⟩ so2 sc2 none 0 wr)) (fun i _ => m.sg.length - (intOf i).toNat)
  case atStart => exact ⟨0, none, 0, Nat.zero_le _, rfl, G1.out⟩
  case round =>
    obtain ⟨k, so2, sc2, hk, rfl, HG⟩ := hrel
    clear G1
    have l2 := HG.out.L.ldO ty_parts 0 rfl 2 (v := .slice so m.sg.length sc) rfl
    by_cases hlt : k < m.sg.length
    · have hlt1 : (k : Int) < (m.sg.length : Int) := by omega
      obtain ⟨bb, oo, hso, hone⟩ := HA.out.ps.one hlt
      have HST : Hid (m.sg.take (k + 1) = m.sg.take k ++ [m.sg[k]'hlt]) := List.take_succ_eq_append_getElem hlt
      obtain ⟨⟨p1, p2⟩, hp⟩ : ∃ p, p = m.sg[k]'hlt := ⟨_, rfl⟩
      rw [← hp] at hone HST
      dsimp only at hone
      have hlen : Hid ((m.sg.take k).length = k) := by show _ = _; rw [List.length_take]; omega
      obtain ⟨X, hX⟩ : ∃ X, X = m.sg.take k := ⟨_, rfl⟩
      rw [← hX] at HG HST hlen
      clear hX hp
      go_upto_region 5 with fail
      clear l2
      have G3 := Lib.hid (HG.out.to (Below.refl _ _).drew)
      clear HG
      subst hso
      obtain ⟨LL, hLL⟩ : ∃ LL, LL = [(w.heap.size, 34, mcs m (some ⟨bb, oo, none⟩) sc co cc), (w.heap.size + 1, 48, mcs mz none 0 none 0)] ++ [(g3, 48, mcs ⟨m.ep, m.pl, X, []⟩ so2 sc2 none 0)] := ⟨_, rfl⟩
      have a1 : ∀ W, Loc w.heap.size w W LL → (ldT 46 (.pointer (some ⟨g3, 2, none⟩))).run Tryz.prog W = .ok (.slice so2 X.length sc2) W := fun W hW => by rw [hLL] at hW; exact hW.ldO ty_rparts 2 rfl 2 rfl
      have a2 : ∀ W, Loc w.heap.size w W LL → (ldT 31 (.pointer (some ⟨w.heap.size, 2, none⟩))).run Tryz.prog W = .ok (.slice (some ⟨bb, oo, none⟩) m.sg.length sc) W := fun W hW => by rw [hLL] at hW; exact hW.ldO ty_parts 0 rfl 2 rfl
      have a3 : ∀ W, Loc w.heap.size w W LL → (ldT 61 (.pointer (some ⟨bb, oo + k * 2, none⟩))).run Tryz.prog W = .ok (.agg #[.int .u64 (p1 : Int), .int .u64 (p2 : Int)]) W := fun W hW => (hone W hW.be).1 _ ty_part
      have o0 : Loc w.heap.size w _ LL := hLL ▸ G3.out.L
      have HLL := Lib.hid hLL
      clear hLL hone
      refine wp_region_till (S := fun W => Loc w.heap.size w W LL) (by kernel_rfl) ?_
      refine wpTill_take (i := 0) (v := ?vq1) rfl (by kernel_rfl) (fun _ _ _ h => h) (Or.inl ⟨by rfl, ?hq1⟩) o0 ?rq1
      case hq1 => (intro W hW; (try dsimp only at hW); go_simp; try with_reducible rfl)
      simp only [Act.put, List.setIfInBounds_toArray, List.set_cons_zero, List.set_cons_succ, List.getElem_toArray, List.getElem_cons_succ, List.getElem_cons_zero]
      refine wpTill_take (i := 1) (v := ?vq2) rfl (by kernel_rfl) (fun _ _ _ h => h) (Or.inl ⟨by rfl, ?hq2⟩) o0 ?rq2
      case hq2 => (intro W hW; (try dsimp only at hW); go_simp; try with_reducible rfl)
      simp only [Act.put, List.setIfInBounds_toArray, List.set_cons_zero, List.set_cons_succ, List.getElem_toArray, List.getElem_cons_succ, List.getElem_cons_zero]
      refine wpTill_take (i := 2) (v := ?vq3) rfl (by kernel_rfl) (fun _ _ _ h => h) (Or.inl ⟨by rfl, ?hq3⟩) o0 ?rq3
      case hq3 => (intro W hW; (try dsimp only at hW); go_simp; try with_reducible rfl)
      simp only [Act.put, List.setIfInBounds_toArray, List.set_cons_zero, List.set_cons_succ, List.getElem_toArray, List.getElem_cons_succ, List.getElem_cons_zero]
      refine wpTill_take (i := 3) (v := ?vq4) rfl (by kernel_rfl) (fun _ _ _ h => h) (Or.inl ⟨by rfl, ?hq4⟩) o0 ?rq4
      case hq4 => (intro W hW; (try dsimp only at hW); go_simp; try with_reducible rfl)
      simp only [Act.put, List.setIfInBounds_toArray, List.set_cons_zero, List.set_cons_succ, List.getElem_toArray, List.getElem_cons_succ, List.getElem_cons_zero]
      refine wpTill_take (i := 4) (v := ?vq5) rfl (by kernel_rfl) (fun _ _ _ h => h) (Or.inl ⟨by rfl, ?hq5⟩) o0 ?rq5
      case hq5 => (intro W hW; (try dsimp only at hW); go_simp; try with_reducible rfl)
      simp only [Act.put, List.setIfInBounds_toArray, List.set_cons_zero, List.set_cons_succ, List.getElem_toArray, List.getElem_cons_succ, List.getElem_cons_zero]
      refine wpTill_take (i := 5) (v := ?vq6) rfl (by kernel_rfl) (fun _ _ _ h => h) (Or.inl ⟨by rfl, ?hq6⟩) o0 ?rq6
      case hq6 => (intro W hW; (try dsimp only at hW); go_simp; try with_reducible rfl)
      simp only [Act.put, List.setIfInBounds_toArray, List.set_cons_zero, List.set_cons_succ, List.getElem_toArray, List.getElem_cons_succ, List.getElem_cons_zero]
      refine wpTill_take (i := 6) (v := ?vq7) rfl (by kernel_rfl) (fun _ _ _ h => h) (Or.inl ⟨by rfl, ?hq7⟩) o0 ?rq7
      case hq7 => (intro W hW; (try dsimp only at hW); go_simp; try with_reducible rfl)
      simp only [Act.put, List.setIfInBounds_toArray, List.set_cons_zero, List.set_cons_succ, List.getElem_toArray, List.getElem_cons_succ, List.getElem_cons_zero]
      refine wpTill_run (i := 7) (by kernel_rfl) rfl o0 (fun K hK => ?_)
      go_simp
      have G4 := Lib.hid (G3.out.to (mb_alloc _ (.cells (gpv (p1, p2)).toArray 102)))
      have o4 : Loc w.heap.size w _ LL := HLL.out ▸ G4.out.L
      refine hK _ _ ?_
      clear hK K
      refine wpTill_run (i := 8) (by kernel_rfl) rfl o4 (fun K hK => ?_)
      refine step_append_part Tryz.underlying46 info_rpart rfl _ _ rfl (by simp [Act.eval]) (p1, p2) (by simp [Act.eval]) G3.out.ps G3.out.L (Nat.le_refl _) G3.out.L.size (gs_bs _ _ _ _) (by have := hlen.out; simp; omega) ?_
      intro r' cap' w10 hr10 hl10 hg10
      obtain ⟨w11, s11, g11⟩ := G3.out.part ty_rparts (by decide) (p1, p2) hr10 hl10 hg10
      have G11 := Lib.hid g11
      have o10 : Loc w.heap.size w _ LL := HLL.out ▸ hl10
      clear hr10 hl10 hg10 g11 G4 G3
      refine hK _ _ ?_
      clear hK K
      refine wpTill_run (i := 9) (by kernel_rfl) rfl o10 (fun K hK => ?_)
      go_simp
      refine hK _ _ ?_
      clear hK K
      refine wpTill_run (i := 10) (by kernel_rfl) rfl o10 (fun K hK => ?_)
      go_simp
      refine hK _ _ ?_
      clear hK K
      refine wpTill_done (by kernel_rfl) ?_
      clear a1 a2 a3 o0 o4 o10 s11
      go_wp2
      go_roundw
      case rel => exact ⟨k + 1, _, _, by omega, by go_num, by show GS _ _ _ _ _ _ _ _ _ _ _; rw [HST.out]; exact G11.out⟩
      case measure => simp [intOf]; omega
    · have hlt1 : ¬ (k : Int) < (m.sg.length : Int) := by omega
      obtain rfl : k = m.sg.length := by omega
      rw [List.take_length] at HG
      have l3 := HG.out.L.ldO ty_nums 2 rfl 3 (v := .slice none 0 0) rfl
      have l4 := HG.out.L.ldO ty_nums 0 rfl 3 (v := .slice co m.ck.length cc) rfl
      clear hlt
      go_upto_region 7 with (at_builtin; refine wpList_append_nums rfl _ _ rfl co cc m.ck (by simp [Act.eval]) (by simp [Act.eval]) (HA.out.ns.to HG.out.L.be) HN.out (by omega) ?_; intro ao' cap' w5 hr5 hg5; obtain ⟨w6, s6, g6⟩ := HG.out.nums hr5 hg5)
      have G6 := Lib.hid g6
      clear l2 l3 l4 HG hr5 hg5 g6 s6
      have l7 := G6.out.L.ldA ty_rman 2 rfl 0 (vs := mcs m so2 sc2 ao' cap') rfl (Nat.le_of_ble_eq_true rfl)
      obtain ⟨w8, s8, H8, q8⟩ := G6.out.L.stA ty_rman 1 rfl 0 (mcs m so2 sc2 ao' cap') (cs' := mcs m so2 sc2 ao' cap') rfl (L' := [(w.heap.size, 34, mcs m so sc co cc), (w.heap.size + 1, 48, mcs m so2 sc2 ao' cap'), (g3, 48, mcs m so2 sc2 ao' cap')]) rfl (Nat.le_of_ble_eq_true rfl) rfl rfl
      have hrd := G6.out.read HA.out.fit HA.out.l1 HA.out.l2
      have hap := G6.out.apart (b := w.heap.size + 1) (by simp)
      have AT := Lib.hid (show MfAt w8 m so2 ao' from ⟨HA.out.fit, ps_off hrd.1.ps q8 hap.1, ns_off hrd.1.ns q8 hap.2, HA.out.l1, HA.out.l2⟩)
      clear hrd hap q8
      go_wp2
      refine bodyPost_ret (ret_struct Tryz.underlying48 ty_rman _ 2 _ Tryz.results13 (H8.get 1 rfl) rfl rfl) rfl ?_
      rw [HQ.out]
      exact ⟨so2, sc2, ao', cap', rfl, AT.out, H8.be⟩
end
end Go.Proofs.YtakejacamkdncaaGreatDoor
