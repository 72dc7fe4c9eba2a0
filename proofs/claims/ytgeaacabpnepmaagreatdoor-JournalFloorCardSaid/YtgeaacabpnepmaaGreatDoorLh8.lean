/- Texts of the walk. -/
import Derived.Test.YtgeaacabpnepmaaGreatDoorLf8
import Derived.Laws.Append
import Derived.Laws.AppendOwn
/- A row of one's own, of elements of k cells, gone along: cut at its front, at its end, in its room; more appended. -/
namespace Go.Proofs.YtgeaacabpnepmaaGreatDoor
open Go.RowKit
set_option linter.unusedVariables false
set_option linter.unusedSimpArgs false
set_option maxRecDepth 20000

structure GQ (T : TypeId) (k B : Nat) (w : World) (bs : List Nat) (ao : Option Addr) (n cap : Nat) (xs : List Value) : Prop where
  len : xs.length = n * k
  own : (ao = none ∧ n = 0 ∧ cap = 0) ∨ ∃ g o cur, ao = some ⟨g, o, none⟩ ∧ B ≤ g ∧ (∀ b ∈ bs, b ≠ g) ∧ w.heap[g]? = some (.cells cur T (0, 0)) ∧ n ≤ cap ∧ cap ≤ maxLen ∧ o + cap * k ≤ cur.size ∧ ∀ j (h : j < xs.length), cur[o + j]? = some (xs[j]'h)
  lo : ∀ b ∈ bs, b < w.heap.size
section
variable {T TS : TypeId} {k B B0 : Nat} {w0 w w' : World} {L L' : List (Nat × TypeId × Array Value)} {bs : List Nat} {ao : Option Addr} {n cap : Nat} {xs : List Value}
theorem GQ.nil (T : TypeId) (k B : Nat) (w : World) (bs : List Nat) (hl : ∀ b ∈ bs, b < w.heap.size) : GQ T k B w bs none 0 0 [] := ⟨by simp, .inl ⟨rfl, rfl, rfl⟩, hl⟩
theorem GQ.tu {S : Nat → Prop} (h : GQ T k B w bs ao n cap xs) (hb : Tu S w w') (hs : ∀ a, ao = some a → ¬ S a.block) : GQ T k B w' bs ao n cap xs :=
  ⟨h.len, h.own.imp id fun ⟨g, o, cur, h1, h2, h3, h4, h5⟩ => ⟨g, o, cur, h1, h2, h3, (hb.block g (Array.getElem?_eq_some_iff.1 h4).1 (hs _ h1)).trans h4, h5⟩, fun b hbb => Nat.lt_of_lt_of_le (h.lo b hbb) hb.size⟩
theorem GQ.to (h : GQ T k B w bs ao n cap xs) (hb : Below w.heap.size w w') : GQ T k B w' bs ao n cap xs := h.tu (S := fun _ => False) (.new hb) (fun _ _ h => h)
theorem GQ.turn (h : GQ T k B w bs ao n cap xs) {g : Nat} (hk : g ∈ bs) (hb : w.grownBy w' (some g)) : GQ T k B w' bs ao n cap xs :=
  h.tu (Tu.of_same hb) fun a e hg => by
    rcases h.own with ⟨h1, _⟩ | ⟨g', o, cur, h1, h2, h3, _⟩
    · rw [h1] at e; cases e
    · rw [h1] at e; cases e
      exact h3 g hk hg.symm
theorem GQ.caps (h : GQ T k B w bs ao n cap xs) : n ≤ cap ∧ cap ≤ maxLen := by
  rcases h.own with ⟨_, h1, h2⟩ | ⟨_, _, _, _, _, _, _, h1, h2, _⟩
  · subst h1 h2; exact ⟨Nat.le_refl _, Nat.zero_le _⟩
  · exact ⟨h1, h2⟩
theorem GQ.blk (h : GQ T k B w bs ao n cap xs) {a : Addr} (e : ao = some a) : B ≤ a.block ∧ a.block < w.heap.size ∧ ∀ b ∈ bs, b ≠ a.block := by
  rcases h.own with ⟨h1, _⟩ | ⟨g, o, cur, h1, h2, h3, h4, _⟩
  · rw [h1] at e; cases e
  · rw [h1] at e; cases e
    exact ⟨h2, (Array.getElem?_eq_some_iff.1 h4).1, h3⟩
theorem GQ.at (h : GQ T k B w bs ao n cap xs) {j : Nat} (hj : j < xs.length) : ∃ g o, ao = some ⟨g, o, none⟩ ∧ w.cell? ⟨g, o + j, none⟩ = some (xs[j]'hj) := by
  rcases h.own with ⟨_, h1, _⟩ | ⟨g, o, cur, e1, e2, e3, e4, e5, e6, e7, e8⟩
  · have := h.len; subst h1; simp at this; subst this; cases hj
  · exact ⟨g, o, e1, by rw [cell_of_row w g (o + j) cur _ (0, 0) e4]; exact e8 j hj⟩
theorem GQ.news (h : GQ T k B w bs ao n cap xs) {a : Addr} (e : ao = some a) : ∀ j u, xs[j]? = some u → w.cell? (a.add j) = some u := fun j u hu => by
  obtain ⟨hj, hv⟩ := List.getElem?_eq_some_iff.1 hu
  obtain ⟨g, o, e1, hc⟩ := h.at hj
  rw [e1] at e
  cases e
  rw [show (⟨g, o, none⟩ : Addr).add j = ⟨g, o + j, none⟩ from by simp [Addr.add], hc, hv]
theorem run_append_gat {P : Program} (w : World) (t ty e : TypeId) (i : TypeInfo) (ht : P.underlying t = some (.slice e)) (hi : P.info? e = some i) (hs : i.size = k)
    (g o sLen sCap : Nat) (cur : Array Value) (hg : w.heap[g]? = some (.cells cur e (0, 0)))
    (a : Addr) (m c : Nat) (news : List Value) (hl : news.length = m * k) (hnews : ∀ j u, news[j]? = some u → w.cell? (a.add j) = some u) (h1 : ∀ u ∈ news, u.oneCell' = true)
    (hroom : sLen + m ≤ sCap) (hfit : o + sLen * k + m * k ≤ cur.size) :
    (Builtin.append_ #[t, t] ty #[.slice (some ⟨g, o, none⟩) sLen sCap, .slice (some a) m c]).run P w =
      .ok (.slice (some ⟨g, o, none⟩) (sLen + m) sCap) (w.setRow g (cur.toList.take (o + sLen * k) ++ news ++ cur.toList.drop (o + sLen * k + m * k)).toArray) := by
  have hf := run_firstCells_some (P := P) w i.size m a m c news (by rw [hs]; exact hl) hnews
  have hst := run_storeCells_at P g (o + sLen * k) e news 0 cur w hg (by rw [hl]; omega) h1
  simp only [Nat.add_zero] at hst
  rw [hl] at hst
  rw [hs] at hf
  have hst2 : (storeCells ⟨g, o + sLen * k, none⟩ news).run P w = .ok () (w.setRow g (cur.toList.take (o + sLen * k) ++ news ++ cur.toList.drop (o + sLen * k + m * k)).toArray) := hst
  simp [Builtin.append_, run_underlying ht, sizeOf, typeInfo, hi, Builtin.lenOf, hroom, hs, Addr.add_lit, hf, hst2]
theorem app_gq (TS : TypeId) (hu : Tryz.prog.underlying TS = some (.slice T)) (ty : TypeId) {i0 : TypeInfo} {z : Value} {by0 : Nat} (hi0 : Tryz.prog.info? T = some i0) (hz0 : i0.zero = some z) (hz1 : i0.size = k) (hz2 : i0.bytes = by0) (hzs : z.cells.size = k) (hk : 0 < k) (hby : by0 ≤ 100)
    (hq : GQ T k B w bs ao n cap xs) (hn : n ≤ 1000000) (hB : B ≤ w.heap.size) (ad : Addr) (m c : Nat) (hm : m ≤ 1000000) (news : List Value) (hl : news.length = m * k) (hnews : ∀ j u, news[j]? = some u → w.cell? (ad.add j) = some u) (h1 : ∀ u ∈ news, u.oneCell' = true) :
    ∃ ao' cap' w', (Builtin.append_ #[TS, TS] ty #[.slice ao n cap, .slice (some ad) m c]).run Tryz.prog w = .ok (.slice ao' (n + m) cap') w' ∧ GQ T k B w' bs ao' (n + m) cap' (xs ++ news) ∧ w.grownBy w' (ao.map (·.block)) ∧ ((ao'.map (·.block)) = ao.map (·.block) ∨ ∀ a, ao' = some a → a.block = w.heap.size) := by
  have hlx : (xs ++ news).length = (n + m) * k := by rw [List.length_append, hq.len, hl, Nat.add_mul]
  have hmb : (n + m) * by0 ≤ 140737488355328 := by
    have : (n + m) * by0 ≤ 2000000 * 100 := Nat.mul_le_mul (by omega) hby
    omega
  have hmade : ∀ (zs : List Value) (cap' : Nat), n + m ≤ cap' → cap' ≤ maxLen → ((xs.toArray ++ news.toArray ++ zs.toArray) : Array Value).size = cap' * k →
      GQ T k B (w.drew.alloc (.cells (xs.toArray ++ news.toArray ++ zs.toArray) T)) bs (some ⟨w.heap.size, 0, Option.none⟩) (n + m) cap' (xs ++ news) := fun zs cap' h1 h2 h3 =>
    ⟨hlx, .inr ⟨w.heap.size, 0, _, rfl, hB, fun b hb => Nat.ne_of_lt (hq.lo b hb), heap_alloc_new w.drew _, h1, h2, by omega, fun j hj => by
      rw [Nat.zero_add, show (xs.toArray ++ news.toArray ++ zs.toArray : Array Value) = ((xs ++ news) ++ zs).toArray by simp, List.getElem?_toArray, List.getElem?_append_left hj, List.getElem?_eq_getElem hj]⟩, fun b hb => by have := hq.lo b hb; simp; omega⟩
  have hzc : ∀ c, n + m ≤ c → ((xs.toArray ++ news.toArray ++ Builtin.zeroCells z.cells (c - (n + m))) : Array Value).size = c * k := fun c hc => by
    simp only [Array.size_append, List.size_toArray, size_zeroCells, hzs, hq.len, hl]
    rw [← Nat.add_mul, ← Nat.add_mul]
    congr 1
    omega
  have hlist : ∀ c, (Builtin.zeroCells z.cells c) = (Builtin.zeroCells z.cells c).toList.toArray := fun c => by simp
  rcases hq.own with ⟨rfl, rfl, rfl⟩ | ⟨g, o, cur, rfl, e2, e3, e4, e5, e6, e7, e8⟩
  · have hx0 : xs = [] := List.eq_nil_of_length_eq_zero (by rw [hq.len, Nat.zero_mul])
    subst hx0
    by_cases hm0 : m = 0
    · subst hm0
      have hn0 : news = [] := List.eq_nil_of_length_eq_zero (by simpa using hl)
      subst hn0
      refine ⟨none, 0, w, ?_, GQ.nil _ _ _ _ _ hq.lo, ⟨rfl, rfl, rfl, Nat.le_refl _, fun _ _ _ => rfl⟩, .inl rfl⟩
      simp [Builtin.append_, run_underlying hu, sizeOf, typeInfo, hi0, Builtin.lenOf, Builtin.firstCells, loadCells, loadCellsFrom]
    · have hr := run_append_nil w TS ty T i0 z hu hi0 hz0 ad m c news (by rw [hz1]; exact hl) hnews (by omega) (by omega) (by rw [hz2]; have := hmb; rw [Nat.zero_add] at this; omega)
      have h2 := hmade (Builtin.zeroCells z.cells (grownCap w m 0 T - m)).toList (grownCap w m 0 T) (by have := grownCap_ge w m 0 T; omega) (grownCap_le_maxLen w m 0 _ (by simp only [maxLen]; omega)) (by
        rw [← hlist]; have := hzc (grownCap w m 0 T) (by have := grownCap_ge w m 0 T; omega); rw [Nat.zero_add] at this; exact this)
      rw [← hlist] at h2
      simp only [Nat.zero_add, List.nil_append, Array.empty_append] at h2 hr ⊢
      exact ⟨_, _, _, hr, h2, ⟨rfl, rfl, rfl, by simp, fun k hk _ => Below.heap_alloc _ _ _ hk⟩, .inr fun a e => by cases e; rfl⟩
  · by_cases hroom : n + m ≤ cap
    · have hmul := Nat.mul_le_mul_right k hroom
      rw [Nat.add_mul] at hmul
      have hr := run_append_gat w TS ty T i0 hu hi0 hz1 g o n cap cur e4 ad m c news hl hnews h1 hroom (by omega)
      refine ⟨_, _, _, hr, ⟨hlx, .inr ⟨g, o, _, rfl, e2, e3, setRow_heap _ _ _ _ _ _ e4, hroom, e6, ?_, fun j hj => ?_⟩, fun b hb => by have := hq.lo b hb; simp [World.setRow]; omega⟩, grown_setRow _ _ _, .inl rfl⟩
      · simp only [List.size_toArray, List.length_append, List.length_take, List.length_drop, Array.length_toList, hl]; omega
      · rw [hlx, Nat.add_mul] at hj
        have hln := hq.len
        simp only [List.getElem?_toArray]
        rw [List.append_assoc, List.getElem?_append]
        rcases Nat.lt_or_ge j (n * k) with hj2 | hj2
        · rw [if_pos (by simp; omega), List.getElem?_take, if_pos (by omega)]
          have := e8 j (by omega)
          rw [Array.getElem?_toList, this, List.getElem_append_left (by omega)]
        · rw [if_neg (by simp; omega), List.getElem?_append_left (by simp; omega)]
          simp only [List.length_take, Array.length_toList]
          rw [show o + j - min (o + n * k) cur.size = j - n * k by omega, List.getElem_append_right (by omega), List.getElem?_eq_getElem (by omega)]
          simp [hln]
    · have hr := run_append_grow w TS ty T i0 z hu hi0 hz0 ⟨g, o, Option.none⟩ n cap xs (by rw [hz1]; exact hq.len) (fun j v hv => hq.news rfl j v hv) ad m c news (by rw [hz1]; exact hl) hnews (by omega) (by omega) (growslice_fits (by omega) (by rw [hz2]; omega))
      have h2 := hmade (Builtin.zeroCells z.cells (grownCap w (n + m) cap T - (n + m))).toList (grownCap w (n + m) cap T) (grownCap_ge w _ _ _) (grownCap_le_maxLen w _ _ _ (by simp only [maxLen]; omega)) (by rw [← hlist]; exact hzc _ (grownCap_ge w _ _ _))
      rw [← hlist] at h2
      exact ⟨_, _, _, hr, h2, ⟨rfl, rfl, rfl, by simp, fun k hk _ => Below.heap_alloc _ _ _ hk⟩, .inr fun a e => by cases e; rfl⟩
theorem wp_append_gq {o : Oper} {a : Act} {K : Act → World → Prop} {Q : Exit → Act → World → Prop} (hu : Tryz.prog.underlying TS = some (.slice T)) {z : Value} {by0 : Nat} (hi : (Tryz.prog.info? T).map (fun i => (i.zero, i.size, i.bytes)) = some (some z, k, by0)) (hzs : z.cells.size = k) (hk : 0 < k) (hby : by0 ≤ 100) (s x : Operand)
    (ho : o.op = .call { callee := .builtin .append, args := #[s, x], argTypes := #[TS, TS] }) (hs : a.eval s = .slice ao n cap) (hq : GQ T k B w bs ao n cap xs) (hn : n ≤ 1000000) (hB : B ≤ w.heap.size) (ad : Addr) (m c : Nat) (hm : m ≤ 1000000) (news : List Value) (hx : a.eval x = .slice (some ad) m c) (hl : news.length = m * k) (hnews : ∀ j u, news[j]? = some u → w.cell? (ad.add j) = some u) (h1 : ∀ u ∈ news, u.oneCell' = true)
    (h : ∀ ao' cap' w', GQ T k B w' bs ao' (n + m) cap' (xs ++ news) → w.grownBy w' (ao.map (·.block)) → ((ao'.map (·.block)) = ao.map (·.block) ∨ ∀ a, ao' = some a → a.block = w.heap.size) → K (a.put o.dst (.slice ao' (n + m) cap')) w') : Oper.wp Tryz.prog o a w K Q := by
  obtain ⟨i0, hi0, hz0, hz1, hz2⟩ := info_parts hi
  obtain ⟨ao', cap', w', hr, h2, h3, h4⟩ := app_gq TS hu o.type hi0 hz0 hz1 hz2 hzs hk hby hq hn hB ad m c hm news hl hnews h1
  unfold Oper.wp execOp
  simp only [ho, resolve, invoke, builtin, Sem.run_bind, Sem.run_pure, Result.andThen_ok, List.map_toArray, List.map_cons, List.map_nil, hs, hx, hr]
  exact h ao' cap' w' h2 h3 h4
theorem step_append_gq {ops : Array Oper} {o : Oper} {a : Act} {K : Act → World → Prop} {E : Prop} {Q : Exit → Act → World → Prop} (hu : Tryz.prog.underlying TS = some (.slice T)) {z : Value} {by0 : Nat} (hi : (Tryz.prog.info? T).map (fun i => (i.zero, i.size, i.bytes)) = some (some z, k, by0)) (hzs : z.cells.size = k) (hk : 0 < k) (hby : by0 ≤ 100) (hgd : o.guard = Option.none) (s x : Operand)
    (ho : o.op = .call { callee := .builtin .append, args := #[s, x], argTypes := #[TS, TS] }) (hs : a.eval s = .slice ao n cap) (hq : GQ T k B w bs ao n cap xs) (hn : n ≤ 1000000) (hB : B ≤ w.heap.size) (ad : Addr) (m c : Nat) (hm : m ≤ 1000000) (news : List Value) (hx : a.eval x = .slice (some ad) m c) (hl : news.length = m * k) (hnews : ∀ j u, news[j]? = some u → w.cell? (ad.add j) = some u) (h1 : ∀ u ∈ news, u.oneCell' = true)
    (h : ∀ ao' cap' w', GQ T k B w' bs ao' (n + m) cap' (xs ++ news) → w.grownBy w' (ao.map (·.block)) → ((ao'.map (·.block)) = ao.map (·.block) ∨ ∀ a, ao' = some a → a.block = w.heap.size) → K (a.put o.dst (.slice ao' (n + m) cap')) w') :
    if Region.wanted o (yielded ops a.tmps) = true then Oper.wp Tryz.prog o a w K Q else E := by
  have hw : Region.wanted o (yielded ops a.tmps) = true := by simp [Region.wanted, hgd]
  rw [if_pos hw]
  exact wp_append_gq hu hi hzs hk hby s x ho hs hq hn hB ad m c hm news hx hl hnews h1 h
theorem GQ.prAt {l : List (Nat × Nat)} (h : GQ T 2 B w bs ao n cap (Gql l)) : PrAt w ao l := fun j hj => by
  have hl : (Gql l).length = l.length * 2 := Gql_len l
  have key : ∀ i v, (qv (l[j]'hj))[i]? = some v → ∃ g o, ao = some ⟨g, o, none⟩ ∧ w.cell? ⟨g, o + (j * 2 + i), none⟩ = some v := fun i v hv => by
    have h1 := Gql_at l j i hj v hv
    obtain ⟨h2, h3⟩ := List.getElem?_eq_some_iff.1 h1
    obtain ⟨g, o, e, hc⟩ := h.at h2
    exact ⟨g, o, e, by rw [hc, h3]⟩
  obtain ⟨g, o, e, h1⟩ := key 0 _ rfl
  obtain ⟨g2, o2, e2, h2⟩ := key 1 _ rfl
  rw [e] at e2
  cases e2
  exact ⟨g, o, e, by rw [show o + j * 2 = o + (j * 2 + 0) by omega]; exact h1, by rw [show o + j * 2 + 1 = o + (j * 2 + 1) by omega]; exact h2⟩
end
end Go.Proofs.YtgeaacabpnepmaaGreatDoor
/- The records of one segment that has all of it. -/
namespace Go.Proofs.YtgeaacabpnepmaaGreatDoor
open Go.RowKit
set_option linter.unusedVariables false
set_option linter.unusedSimpArgs false
set_option maxRecDepth 20000

theorem PrAt.one {w : World} {ao : Option Addr} {l : List (Nat × Nat)} (h : PrAt w ao l) {k : Nat} (hk : k < l.length) : ∃ b o, ao = some ⟨b, o, none⟩ ∧
    ∀ W, Below w.heap.size w W → (ldT 40 (.pointer (some ⟨b, o + k * 2, none⟩))).run Tryz.prog W = .ok (.agg #[.int .u8 ((l[k]'hk).1 : Int), .int .u8 ((l[k]'hk).2 : Int)]) W := by
  obtain ⟨b, o, e, _⟩ := h k hk
  refine ⟨b, o, e, fun W hW => ?_⟩
  obtain ⟨b', o', e', h1, h2⟩ := h.to hW k hk
  rw [e] at e'
  cases e'
  refine run_ldV ty_pair (qv (l[k]'hk)) rfl fun j v hv => ?_
  match j, hv with
  | 0, hv => cases hv; exact h1
  | 1, hv => cases hv; exact h2
  | j + 2, hv => simp [qv] at hv
theorem st_pair (p v : Value) : Instr.storeAt 40 p v = stT 40 p v := rfl
attribute [local go_sem ↓] ld_u64 ld_prs ld_pair st_pair ld_input bs_m2
attribute [local go_sem] bs_rec2
set_option maxHeartbeats 4000000 in
theorem records_c (g pl : Nat) (x : Cn) (ao : Option Addr) (ac : Nat) (po : Option Addr) (pc : Nat) (w : World) (h : JCt w g x ao ac po pc) (hx : CnOk x) (hp : pl ≤ 1) (hl : x.ps.length ≤ 132000 ∧ x.ah.length ≤ 132000) :
    Calls Tryz.prog 80 #[.pointer (some ⟨g, 0, none⟩), .int .u8 (pl : Int)] w (RlPost (cnRecs pl x) w) := by
  have HJ := Lib.hid h
  have HX := Lib.hid hx
  have HL := Lib.hid hl
  have HP := Lib.hid hp
  have l0 := run_ldO ty_prs h.blk 3 (v := .slice po x.ps.length pc) rfl
  obtain ⟨Q, hQ⟩ : ∃ Q : Ending → World → Prop, Q = RlPost (cnRecs pl x) w := ⟨_, rfl⟩
  rw [← hQ]
  have HQ := Lib.hid hQ
  clear h hx hl hp hQ
  go_enter Tryz.func80, Tryz.ntmps80
  go_wp2
  clear l0
  go_loopw [5, 14] (fun lv iv wr => ∃ (k : Nat) (a1 : Option Addr) (c1 : Nat), k ≤ x.ps.length ∧ iv = .int .i64 (k : Int) ∧ lv = .slice a1 (2 * k) c1 ∧ Hid (Rcr 114 w.heap.size wr [] a1 (2 * k) c1 (pRecs pl x.fr (x.ps.take k))) ∧ Hid (Loc w.heap.size w wr [])) (fun _ iv _ => x.ps.length - (intOf iv).toNat)
  case atStart => exact ⟨0, none, 0, Nat.zero_le _, rfl, rfl, by show Rcr _ _ _ _ _ _ _ _; rw [List.take_zero]; exact Rcr.none _ _ _ _ (fun _ h => by cases h), Loc.nil (Nat.le_refl _)⟩
  case round =>
    obtain ⟨k, a1, c1, hk, rfl, rfl, HR, HLc⟩ := hrel
    have hml : (pRecs pl x.fr (x.ps.take k)).length = 2 * k := by rw [pRecs_len, List.length_take]; omega
    by_cases hlt : k < x.ps.length
    · obtain ⟨b, oo, hb, hone⟩ := HJ.out.prs.one hlt
      subst hb
      have HLT := Lib.hid hlt
      have l1 := hone wr HLc.out.be
      have HTK : Hid (pRecs pl x.fr (x.ps.take (k + 1)) = pRecs pl x.fr (x.ps.take k) ++ [rO (x.fr + k) (sid pl (x.ps[k]'hlt)), rS (x.fr + k) (x.ps[k]'hlt).1 (x.ps[k]'hlt).2]) := by
        show _ = _
        rw [List.take_succ_eq_append_getElem hlt, pRecs_snoc, List.length_take, Nat.min_eq_left hk]
      have hxn := HX.out.n
      have hxo := HX.out.o
      have e0 : IntKind.u64.wrap (k : Int) = (k : Int) := IntWalk.u64_in _ (by omega)
      have e1 : IntKind.u64.wrap ((x.fr : Int) + (k : Int)) = ((x.fr + k : Nat) : Int) := by rw [IntWalk.u64_in _ (by omega)]; omega
      obtain ⟨⟨q1, q2⟩, hqq⟩ : ∃ q, q = x.ps[k]'hlt := ⟨_, rfl⟩
      rw [← hqq] at l1 HTK
      dsimp only at l1 HTK
      obtain ⟨f, hf⟩ : ∃ f : Nat, f = x.fr + k := ⟨_, rfl⟩
      rw [← hf] at e1 HTK
      obtain ⟨z, hz⟩ : ∃ z : Nat, z = sid pl (q1, q2) := ⟨_, rfl⟩
      rw [← hz] at HTK
      have HZ := Lib.hid hz
      clear hf hqq hone hxn hxo hml hz
      obtain ⟨g7, w7, z7, s7, H7, q7⟩ := HLc.out.newA ty_pair #[.int .u8 0, .int .u8 0] #[.int .u8 (q1 : Int), .int .u8 (q2 : Int)] rfl rfl rfl
      have l3 := (HJ.out.to H7.be).blk |> fun hc => run_ldO ty_u64 hc 2 (v := .int .u64 (x.fr : Int)) rfl
      have HR7 := Lib.hid (HR.out.fresh (below_of_grown q7) (Nat.le_of_eq z7) (H7.get 0 rfl).lt)
      replace H7 : Hid (Loc w.heap.size w w7 [(g7, 40, #[.int .u8 (q1 : Int), .int .u8 (q2 : Int)])]) := H7
      clear q7 HR HLc
      go_upto_region 6 with fail
      clear l1 l3 e0 e1 s7 z7
      have HLd := Lib.hid H7.out.drew
      have HRd := Lib.hid (HR7.out.to (Below.refl _ w7).drew)
      generalize hwd : w7.drew = wd at *
      have hpl : pl = 0 ∨ pl = 1 := by have := HP.out; omega
      have hix : (ldT 38 (.pointer (some ⟨g7, pl, none⟩))).run Tryz.prog wd = .ok (.int .u8 (z : Int)) wd := by
        rw [HZ.out]
        rcases hpl with rfl | rfl
        · exact HLd.out.ldO ty_input 0 rfl 0 rfl
        · exact HLd.out.ldO ty_input 0 rfl 1 rfl
      have hlt2 : (pl : Int) < 2 := by have := HP.out; omega
      have FX : Hid (∀ W, G.On wd.heap.size wd W → (ldT 38 (.pointer (some ⟨g7, pl, none⟩))).run Tryz.prog W = .ok (.int .u8 (z : Int)) W) := fun W hW => by
        rw [HZ.out]
        rcases hpl with rfl | rfl
        · exact HLd.out.onO ty_input 0 rfl 0 rfl W hW
        · exact HLd.out.onO ty_input 0 rfl 1 rfl W hW
      have hs0 : (ldT 38 (.pointer (some ⟨g7, pl, none⟩))).run Tryz.prog wd = .ok (.int .u8 (z : Int)) wd ∧ (ldT 40 (.pointer (some ⟨g7, 0, none⟩))).run Tryz.prog wd = .ok (.agg #[.int .u8 (q1 : Int), .int .u8 (q2 : Int)]) wd := ⟨hix, HLd.out.ldA ty_pair 0 rfl 0 rfl (Nat.le_of_ble_eq_true rfl)⟩
      refine wp_region_till (S := fun W => (ldT 38 (.pointer (some ⟨g7, pl, none⟩))).run Tryz.prog W = .ok (.int .u8 (z : Int)) W ∧ (ldT 40 (.pointer (some ⟨g7, 0, none⟩))).run Tryz.prog W = .ok (.agg #[.int .u8 (q1 : Int), .int .u8 (q2 : Int)]) W) (by kernel_rfl) ?_
      rw [hwd]
      clear hwd H7 HR7 hpl hix
      refine wpTill_take (i := 0) (v := ?va0) rfl (by kernel_rfl) (fun _ _ _ h => h) (Or.inl ⟨by rfl, ?hya0⟩) hs0 ?resta0
      case hya0 => (rintro W ⟨hW1, hW2⟩; go_simp; try with_reducible rfl)
      simp only [Act.put, List.setIfInBounds_toArray, List.set_cons_zero, List.set_cons_succ, List.getElem_toArray, List.getElem_cons_succ, List.getElem_cons_zero]
      refine wpTill_take (i := 1) (v := ?va1) rfl (by kernel_rfl) (fun _ _ _ h => h) (Or.inl ⟨by rfl, ?hya1⟩) hs0 ?resta1
      case hya1 => (rintro W ⟨hW1, hW2⟩; go_simp; try with_reducible rfl)
      simp only [Act.put, List.setIfInBounds_toArray, List.set_cons_zero, List.set_cons_succ, List.getElem_toArray, List.getElem_cons_succ, List.getElem_cons_zero]
      refine wpTill_take (i := 2) (v := ?va2) rfl (by kernel_rfl) (fun _ _ _ h => h) (Or.inl ⟨by rfl, ?hya2⟩) hs0 ?resta2
      case hya2 => (rintro W ⟨hW1, hW2⟩; go_simp; try with_reducible rfl)
      simp only [Act.put, List.setIfInBounds_toArray, List.set_cons_zero, List.set_cons_succ, List.getElem_toArray, List.getElem_cons_succ, List.getElem_cons_zero]
      refine wpTill_take (i := 3) (v := ?va3) rfl (by kernel_rfl) (fun _ _ _ h => h) (Or.inl ⟨by rfl, ?hya3⟩) hs0 ?resta3
      case hya3 => (rintro W ⟨hW1, hW2⟩; go_simp; try with_reducible rfl)
      simp only [Act.put, List.setIfInBounds_toArray, List.set_cons_zero, List.set_cons_succ, List.getElem_toArray, List.getElem_cons_succ, List.getElem_cons_zero]
      refine wpTill_take (i := 4) (v := ?va4) rfl (by kernel_rfl) (fun _ _ _ h => h) (Or.inl ⟨by rfl, ?hya4⟩) hs0 ?resta4
      case hya4 => (rintro W ⟨hW1, hW2⟩; go_simp; try with_reducible rfl)
      simp only [Act.put, List.setIfInBounds_toArray, List.set_cons_zero, List.set_cons_succ, List.getElem_toArray, List.getElem_cons_succ, List.getElem_cons_zero]
      refine wpTill_take (i := 6) (v := ?va6) rfl (by kernel_rfl) (fun _ _ _ h => h) (Or.inl ⟨by rfl, ?hya6⟩) hs0 ?resta6
      case hya6 => (rintro W ⟨hW1, hW2⟩; go_simp; try with_reducible rfl)
      simp only [Act.put, List.setIfInBounds_toArray, List.set_cons_zero, List.set_cons_succ, List.getElem_toArray, List.getElem_cons_succ, List.getElem_cons_zero]
      refine wpTill_take (i := 7) (v := ?va7) rfl (by kernel_rfl) (fun _ _ _ h => h) (Or.inl ⟨by rfl, ?hya7⟩) hs0 ?resta7
      case hya7 => (rintro W ⟨hW1, hW2⟩; go_simp; try with_reducible rfl)
      simp only [Act.put, List.setIfInBounds_toArray, List.set_cons_zero, List.set_cons_succ, List.getElem_toArray, List.getElem_cons_succ, List.getElem_cons_zero]
      refine wpTill_run (i := 5) (by kernel_rfl) rfl hs0 (fun K hK => ?_)
      go_simp
      go_at_call 59
      refine (ownRec_c f z wd).mono ?_
      rintro R w8 ⟨rfl, hb8⟩
      have HL8 := Lib.hid (HLd.out.to hb8)
      have HR8 := Lib.hid (HRd.out.to hb8)
      have ho8 : G.On wd.heap.size wd w8 := hb8
      have hs8 : (ldT 38 (.pointer (some ⟨g7, pl, none⟩))).run Tryz.prog w8 = .ok (.int .u8 (z : Int)) w8 ∧ (ldT 40 (.pointer (some ⟨g7, 0, none⟩))).run Tryz.prog w8 = .ok (.agg #[.int .u8 (q1 : Int), .int .u8 (q2 : Int)]) w8 := ⟨FX.out w8 ho8, HL8.out.ldA ty_pair 0 rfl 0 rfl (Nat.le_of_ble_eq_true rfl)⟩
      have HO8 := Lib.hid ho8
      clear hb8 ho8
      refine hK _ _ ?_
      clear hK K
      refine wpTill_run (i := 8) (by kernel_rfl) rfl hs8 (fun K hK => ?_)
      go_simp
      go_at_call 61
      refine (sureRec_c f q1 q2 w8).mono ?_
      rintro R w9 ⟨rfl, hb9⟩
      have HL9 := Lib.hid (HL8.out.to hb9)
      have HR9 := Lib.hid (HR8.out.to hb9)
      have ho9 : G.On wd.heap.size wd w9 := HO8.out.trans (hb9.mono HO8.out.size)
      have hs9 : (ldT 38 (.pointer (some ⟨g7, pl, none⟩))).run Tryz.prog w9 = .ok (.int .u8 (z : Int)) w9 ∧ (ldT 40 (.pointer (some ⟨g7, 0, none⟩))).run Tryz.prog w9 = .ok (.agg #[.int .u8 (q1 : Int), .int .u8 (q2 : Int)]) w9 := ⟨FX.out w9 ho9, HL9.out.ldA ty_pair 0 rfl 0 rfl (Nat.le_of_ble_eq_true rfl)⟩
      have HO9 := Lib.hid ho9
      clear hb9 ho9
      refine hK _ _ ?_
      clear hK K
      refine wpTill_run (i := 9) (by kernel_rfl) rfl hs9 (fun K hK => ?_)
      go_simp
      have hal := below_alloc w9 (.cells (Rall [rO f z, rS f q1 q2]).toArray 114)
      have HLa := Lib.hid (HL9.out.to hal)
      have hsa : (ldT 38 (.pointer (some ⟨g7, pl, none⟩))).run Tryz.prog (w9.alloc (.cells (Rall [rO f z, rS f q1 q2]).toArray 114)) = .ok (.int .u8 (z : Int)) (w9.alloc (.cells (Rall [rO f z, rS f q1 q2]).toArray 114)) ∧ (ldT 40 (.pointer (some ⟨g7, 0, none⟩))).run Tryz.prog (w9.alloc (.cells (Rall [rO f z, rS f q1 q2]).toArray 114)) = .ok (.agg #[.int .u8 (q1 : Int), .int .u8 (q2 : Int)]) (w9.alloc (.cells (Rall [rO f z, rS f q1 q2]).toArray 114)) := ⟨FX.out _ (HO9.out.trans (hal.mono HO9.out.size)), HLa.out.ldA ty_pair 0 rfl 0 rfl (Nat.le_of_ble_eq_true rfl)⟩
      clear hal
      refine hK _ _ ?_
      clear hK K
      refine wpTill_run (i := 10) (by kernel_rfl) rfl hsa (fun K hK => ?_)
      refine step_append_recL Tryz.underlying127 info_rec rfl _ _ rfl (by simp [Act.eval]) [rO f z, rS f q1 q2] 2 rfl (by decide) (by decide) (by simp [Act.eval]) HR9.out HL9.out (Nat.le_refl _) HL9.out.size (by simp) (by have := HL.out; have := HLT.out; omega) ?_
      intro r' cap' w4 hr4 hl4
      have HR4 := Lib.hid hr4
      have HL4 := Lib.hid hl4
      have hi4 : (ldT 38 (.pointer (some ⟨g7, pl, none⟩))).run Tryz.prog w4 = .ok (.int .u8 (z : Int)) w4 := by
        rw [HZ.out]
        rcases (show pl = 0 ∨ pl = 1 by have := HP.out; omega) with rfl | rfl
        · exact HL4.out.ldO ty_input 0 rfl 0 rfl
        · exact HL4.out.ldO ty_input 0 rfl 1 rfl
      have hs4 : (ldT 38 (.pointer (some ⟨g7, pl, none⟩))).run Tryz.prog w4 = .ok (.int .u8 (z : Int)) w4 ∧ (ldT 40 (.pointer (some ⟨g7, 0, none⟩))).run Tryz.prog w4 = .ok (.agg #[.int .u8 (q1 : Int), .int .u8 (q2 : Int)]) w4 := ⟨hi4, HL4.out.ldA ty_pair 0 rfl 0 rfl (Nat.le_of_ble_eq_true rfl)⟩
      clear hr4 hl4 hi4
      refine hK _ _ ?_
      clear hK K
      refine wpTill_run (i := 11) (by kernel_rfl) rfl hs4 (fun K hK => ?_)
      go_simp
      refine hK _ _ ?_
      clear hK K
      refine wpTill_done (by kernel_rfl) ?_
      clear hs0 hs8 hs9 hsa hs4 HLa
      have H4 := Lib.hid (HL4.out.drop 0 rfl)
      have HRn := Lib.hid (HR4.out.less (bs' := []) (fun _ h => by cases h))
      have hbb := HL.out.1
      have hkk := HLT.out
      go_wp2
      go_roundw
      case rel => exact ⟨k + 1, _, _, HLT.out, by go_num, by rw [show 2 * (k + 1) = 2 * k + 2 by omega], by show Rcr _ _ _ _ _ _ _ _; rw [HTK.out, show 2 * (k + 1) = 2 * k + 2 by omega]; exact HRn.out, H4.out⟩
      case measure => have := HLT.out; simp [intOf]; omega
    · obtain rfl : k = x.ps.length := by omega
      have HR2 : Hid (w.heap.size ≤ wr.heap.size ∧ Below w.heap.size w wr ∧ wr.ownsRow w.heap.size 114 9 (.slice a1 (2 * x.ps.length) c1) (2 * x.ps.length) (Rall (pRecs pl x.fr x.ps))) := by
        have h1 := HR.out.own
        rw [List.take_length] at h1
        exact ⟨HLc.out.be.size, HLc.out.be, h1⟩
      obtain ⟨i0, hi0, hz0, hz1, hz2⟩ := info_parts info_rec
      have HUC := Lib.hid (unconf_c g 0 x.c ac ao x.ah wr (by rw [((HJ.out.to HLc.out.be).blk).cell]; rfl) (by rw [((HJ.out.to HLc.out.be).blk).cell]; rfl) (HJ.out.to HLc.out.be).ins HX.out.o (by have := HL.out; omega))
      clear HR HLc hml
      go_wp2_with fail
      refine HUC.out.mono ?_
      rintro R w2 ⟨a2, c2, rfl, hr2, hn2, hc2, ⟨hm2, hz2'⟩, hb2⟩
      have HO2 : Hid (w2.ownsRow w.heap.size 114 9 (.slice a1 (2 * x.ps.length) c1) (2 * x.ps.length) (Rall (pRecs pl x.fr x.ps))) := HR2.out.2.2.kept (grown_of_below (r := Option.none) hb2) (by cases hv : (Value.slice a1 (2 * x.ps.length) c1).ownBlock <;> simp)
      have HB2 := Lib.hid (HR2.out.2.1.trans (hb2.mono HR2.out.1))
      have HW2 := Lib.hid (show w.heap.size ≤ w2.heap.size from HB2.out.size)
      have hlen : (oRecs x.c x.ah).length = x.ah.length := oRecs_len _ _
      rw [hlen] at hc2 ⊢
      have HFin : Hid (∀ (v' : Value) (w3 : World), w3.ownsRow w.heap.size 114 9 v' (2 * x.ps.length + x.ah.length) (Rall (pRecs pl x.fr x.ps) ++ Rall (oRecs x.c x.ah)) → Below w.heap.size w w3 → Q (.returned v') w3) := fun v' w3 h3 b3 => by
        rw [HQ.out]
        have e1 : cnRecs pl x = pRecs pl x.fr x.ps ++ oRecs x.c x.ah := rfl
        have e2 : (cnRecs pl x).length = 2 * x.ps.length + x.ah.length := cnRecs_len
        rw [← Rall_app, ← e1, ← e2] at h3
        obtain ⟨a, c, e, t1, t2, t3, t4, t5⟩ := rcsAt_row h3
        exact ⟨a, c, by rw [e], t1, fun y hy => (t2 y hy).1, t3, ⟨t4, t5⟩, b3⟩
      have HNE := Lib.hid (show x.ah.length = 0 ∨ ∃ y, a2 = some y from by
        rcases Nat.eq_zero_or_pos x.ah.length with h0 | h0
        · exact .inl h0
        · obtain ⟨b, o, e⟩ := hr2.ptr (fun e => by rw [e] at hlen; simp at hlen; omega)
          exact .inr ⟨_, e⟩)
      have HR3 := Lib.hid (And.intro hr2 (And.intro hz2' hlen))
      have HHI := Lib.hid (And.intro hi0 (And.intro hz0 (And.intro hz1 hz2)))
      clear hb2 hr2 hn2 hm2 hz2' HUC hlen hi0 hz0 hz1 hz2
      cases a2 with
      | none =>
        have h0 : x.ah.length = 0 := HNE.out.elim id (fun ⟨y, e⟩ => by cases e)
        obtain rfl : c2 = 0 := HR3.out.2.1 rfl
        have HF := Lib.hid (HFin.out (.slice a1 (2 * x.ps.length) c1) w2 (by have e3 : oRecs x.c x.ah = [] := List.eq_nil_of_length_eq_zero (by rw [HR3.out.2.2, h0]); rw [e3, h0]; simpa [Rall] using HO2.out) HB2.out)
        rw [h0]
        clear h0 hc2
        go_wp2_with (at_builtin; refine wpList_append_own_none rfl _ _ 127 rfl w.heap.size 114 i0 9 Tryz.underlying127 HHI.out.1 (.slice a1 (2 * x.ps.length) c1) (2 * x.ps.length) (Rall (pRecs pl x.fr x.ps)) (by simp [Act.eval]) HO2.out (by simp [Act.eval]) ?_)
        go_wp2
        exact HF.out
      | some ad =>
        have hnw : ∀ j u, (Rall (oRecs x.c x.ah))[j]? = some u → w2.cell? (ad.add j) = some u := fun j u hj => by
          have h0 : oRecs x.c x.ah ≠ [] := fun e => by rw [e] at hj; cases hj
          obtain ⟨b, o, e⟩ := HR3.out.1.ptr h0
          cases e
          exact rcs_news HR3.out.1 j u hj
        have HNW := Lib.hid hnw
        clear hnw hc2
        go_wp2_with (at_builtin; refine wpList_append_own w2 rfl _ _ 127 rfl w.heap.size 114 i0 (.agg (rcs rz)) 9 56 Tryz.underlying127 HHI.out.1 HHI.out.2.1 HHI.out.2.2.1 HHI.out.2.2.2 rfl (by decide) (.slice a1 (2 * x.ps.length) c1) (2 * x.ps.length) (Rall (pRecs pl x.fr x.ps)) (by simp [Act.eval]) HO2.out ad x.ah.length c2 (Rall (oRecs x.c x.ah)) (by simp [Act.eval]) (by rw [Rall_len, HR3.out.2.2]) HNW.out (Rall_ones _) (by simp only [maxLen]; have := HL.out; omega) (by have := HL.out; omega) HW2.out ?_; intro v' w4 ho4 hg4 _; have HF := Lib.hid (HFin.out v' w4 ho4 (HB2.out.trans (grown_nb hg4 (fun y e => (HO2.out.lt y e).1) HW2.out))); clear ho4 hg4)
        go_wp2
        exact HF.out
end Go.Proofs.YtgeaacabpnepmaaGreatDoor
