/- A manifest under way in a block, its rows behind it: words for the walks. -/
import Derived.Test.YtakejacamkdncaaGreatDoorMj
namespace Go.Proofs.YtakejacamkdncaaGreatDoor
open Go.RowKit
set_option linter.unusedVariables false
set_option linter.unusedSimpArgs false
set_option maxRecDepth 20000

/-- A manifest under way in block g, other blocks L0 beside it, its rows. -/
structure GS (TM TP : TypeId) (w : World) (L0 : List (Nat × TypeId × Array Value)) (g : Nat) (m : Mf) (so : Option Addr) (sc : Nat) (co : Option Addr) (cc : Nat) (wr : World) : Prop where
  L : Loc w.heap.size w wr (L0 ++ [(g, TM, mcs m so sc co cc)])
  ps : Grw TP 2 w.heap.size wr (L0.map (·.1) ++ [g]) so m.sg.length sc (Gpl m.sg)
  ns : Grw 30 1 w.heap.size wr (L0.map (·.1) ++ [g]) co m.ck.length cc (Gnl m.ck)
section
variable {TM TP TS : TypeId} {w wr w' : World} {L0 : List (Nat × TypeId × Array Value)} {g sc cc : Nat} {m : Mf} {so co : Option Addr}
theorem gs_bs (L0 : List (Nat × TypeId × Array Value)) (g : Nat) (t : TypeId) (cs : Array Value) : ∀ e ∈ L0 ++ [(g, t, cs)], e.1 ∈ L0.map (·.1) ++ [g] := fun e he => by
  rcases List.mem_append.1 he with he | he
  · exact List.mem_append.2 (.inl (List.mem_map.2 ⟨e, he, rfl⟩))
  · rw [List.mem_singleton] at he; subst he; simp
theorem GS.start (H : Loc w.heap.size w wr (L0 ++ [(g, TM, mcs ⟨m.ep, m.pl, [], []⟩ none 0 none 0)])) : GS TM TP w L0 g ⟨m.ep, m.pl, [], []⟩ none 0 none 0 wr := by
  have lo : ∀ b ∈ L0.map (·.1) ++ [g], b < wr.heap.size := fun b hb => by
    rcases List.mem_append.1 hb with hb | hb
    · obtain ⟨e, he, rfl⟩ := List.mem_map.1 hb
      exact H.low (List.mem_append.2 (.inl he))
    · rw [List.mem_singleton] at hb
      subst hb
      exact H.low (e := (b, TM, mcs ⟨m.ep, m.pl, [], []⟩ none 0 none 0)) (by simp)
  exact ⟨H, Grw.none _ _ _ _ _ lo, Grw.none _ _ _ _ _ lo⟩
theorem GS.to (h : GS TM TP w L0 g m so sc co cc wr) (hb : Below wr.heap.size wr w') : GS TM TP w L0 g m so sc co cc w' := ⟨h.L.to hb, h.ps.to hb, h.ns.to hb⟩
theorem GS.at (h : GS TM TP w L0 g m so sc co cc wr) : Cells wr g TM (mcs m so sc co cc) := h.L.cs (g, TM, mcs m so sc co cc) (by simp)
theorem gs_set {x y : Nat × TypeId × Array Value} (L0 : List (Nat × TypeId × Array Value)) : (L0 ++ [x]).set L0.length y = L0 ++ [y] := by
  rw [List.set_append, if_neg (by omega)]; simp
theorem gs_at {x : Nat × TypeId × Array Value} (L0 : List (Nat × TypeId × Array Value)) : (L0 ++ [x])[L0.length]? = some x := by simp
theorem GS.part {cap' r' : Nat} (ty : TyO TS) (hT : TP ≠ 30) (h : GS TM TP w L0 g m so sc co cc wr) (p : Nat × Nat) (hr : Grw TP 2 w.heap.size w' (L0.map (·.1) ++ [g]) (some ⟨r', 0, none⟩) (m.sg.length + 1) cap' (Gpl m.sg ++ gpv p))
    (hL : Loc w.heap.size w w' (L0 ++ [(g, TM, mcs m so sc co cc)])) (hg : (wr.alloc (.cells (gpv p).toArray TP)).grownBy w' (Value.slice so m.sg.length sc).ownBlock) :
    ∃ w2, (stT TS (.pointer (some ⟨g, 2, none⟩)) (.slice (some ⟨r', 0, none⟩) (m.sg.length + 1) cap')).run Tryz.prog w' = .ok () w2 ∧ GS TM TP w L0 g ⟨m.ep, m.pl, m.sg ++ [p], m.ck⟩ (some ⟨r', 0, none⟩) cap' co cc w2 := by
  have ha := h.to (mb_alloc wr (.cells (gpv p).toArray TP))
  obtain ⟨w2, s2, H2, q2⟩ := hL.stO ty L0.length (gs_at L0) 2 (.slice (some ⟨r', 0, none⟩) (m.sg.length + 1) cap') (cs' := mcs ⟨m.ep, m.pl, m.sg ++ [p], m.ck⟩ (some ⟨r', 0, none⟩) cap' co cc) (by simp [mcs]) (L' := L0 ++ [(g, TM, mcs ⟨m.ep, m.pl, m.sg ++ [p], m.ck⟩ (some ⟨r', 0, none⟩) cap' co cc)]) (gs_set L0) (Nat.le_of_ble_eq_true rfl) rfl rfl
  refine ⟨w2, s2, H2, ?_, (ha.ns.keep hg (ha.ns.unlike ha.ps hT.symm)).turn (by simp) q2⟩
  have := hr.turn (g := g) (by simp) q2
  simpa [Gpl_snoc] using this
theorem GS.num {cap' r' : Nat} (hT : TP ≠ 30) (h : GS TM TP w L0 g m so sc co cc wr) (p : Nat) (hr : Grw 30 1 w.heap.size w' (L0.map (·.1) ++ [g]) (some ⟨r', 0, none⟩) (m.ck.length + 1) cap' (Gnl m.ck ++ gnv p))
    (hL : Loc w.heap.size w w' (L0 ++ [(g, TM, mcs m so sc co cc)])) (hg : (wr.alloc (.cells (gnv p).toArray 30)).grownBy w' (Value.slice co m.ck.length cc).ownBlock) :
    ∃ w2, (stT 32 (.pointer (some ⟨g, 3, none⟩)) (.slice (some ⟨r', 0, none⟩) (m.ck.length + 1) cap')).run Tryz.prog w' = .ok () w2 ∧ GS TM TP w L0 g ⟨m.ep, m.pl, m.sg, m.ck ++ [p]⟩ so sc (some ⟨r', 0, none⟩) cap' w2 := by
  have ha := h.to (mb_alloc wr (.cells (gnv p).toArray 30))
  obtain ⟨w2, s2, H2, q2⟩ := hL.stO ty_nums L0.length (gs_at L0) 3 (.slice (some ⟨r', 0, none⟩) (m.ck.length + 1) cap') (cs' := mcs ⟨m.ep, m.pl, m.sg, m.ck ++ [p]⟩ so sc (some ⟨r', 0, none⟩) cap') (by simp [mcs]) (L' := L0 ++ [(g, TM, mcs ⟨m.ep, m.pl, m.sg, m.ck ++ [p]⟩ so sc (some ⟨r', 0, none⟩) cap')]) (gs_set L0) (Nat.le_of_ble_eq_true rfl) rfl rfl
  refine ⟨w2, s2, H2, (ha.ps.keep hg (ha.ps.unlike ha.ns hT)).turn (by simp) q2, ?_⟩
  have := hr.turn (g := g) (by simp) q2
  simpa [Gnl_snoc] using this
theorem GS.read (h : GS TM TP w L0 g m so sc co cc wr) (hf : m.fit) (h1 : m.sg.length ≤ maxLen) (h2 : m.ck.length ≤ maxLen) : MfAt wr m so co ∧ (∀ a, so = some a → w.heap.size ≤ a.block) ∧ (∀ a, co = some a → w.heap.size ≤ a.block) ∧ (co = none → cc = 0) := by
  have hp := told_part h.ps rfl
  have hn := told_num h.ns rfl
  exact ⟨⟨hf, hp.1, hn.1, h1, h2⟩, fun a e => (hp.2.1 a e).1, fun a e => (hn.2.1 a e).1, hn.2.2.2.2⟩
end
theorem number_i (l : List UInt8) (x : Int) (a : Nat) (hx : x = (a : Int)) (w : World) (ha : a ≤ 1099511627776) (hl : l.length ≤ 1099511627776) :
    Calls Tryz.prog 77 #[.string (str l), .int .i64 x] w fun E w' => E = .returned (.int .u64 ((nbAt l a : Nat) : Int)) ∧ w = w' := by subst hx; exact number_c l a w ha hl
theorem small_i (l : List UInt8) (x : Int) (a : Nat) (hx : x = (a : Int)) (w : World) (ha : a ≤ 1099511627776) (hl : l.length ≤ 1099511627776) :
    Calls Tryz.prog 78 #[.string (str l), .int .i64 x] w fun E w' => E = .returned (.int .i64 ((smAt l a : Nat) : Int)) ∧ w = w' := by subst hx; exact small_c l a w ha hl
theorem d_tkE {s : List UInt8} (h : fe s = 0) : tkE s = (if dYes s then 0 else 4) ∧ tkM s = (if dYes s then dM (fp s) else mz) := by
  obtain ⟨h1, h2⟩ := d_tk h
  unfold tkE tkM
  rw [if_pos h, if_pos h, ← h1]
  refine ⟨rfl, ?_⟩
  by_cases hd : dYes s = true
  · rw [if_pos hd, if_pos hd, h2 hd]
  · rw [if_neg hd, if_neg hd]
theorem str_yes2' (p : List UInt8) : ((str p).toList == (str p).toList) = true := beq_self_eq_true _
theorem str_bne_yes (p : List UInt8) : ((str p).toList != (str p).toList) = false := by rw [bne_self_eq_false]
theorem str_no2' {a b : List UInt8} (h : a ≠ b) : ((str a).toList == (str b).toList) = false := by rw [str_toList, str_toList]; simpa using h
theorem str_bne_no {a b : List UInt8} (h : a ≠ b) : ((str a).toList != (str b).toList) = true := by rw [str_toList, str_toList]; simpa using h
theorem ps_off {w w' : World} {so : Option Addr} {l : List (Nat × Nat)} {g : Nat} (h : PsAt w so l) (q : w.grownBy w' (some g)) (hn : l ≠ [] → ∀ a, so = some a → a.block ≠ g) : PsAt w' so l := fun k hk => by
  obtain ⟨b, o, e, hc⟩ := h k hk
  refine ⟨b, o, e, fun i v hv => ?_⟩
  have h1 := hc i v hv
  rw [World.cell?_of_block (w := w) (q.block b (World.block_lt_of_cell? w _ h1) (fun q => hn (by intro e; subst e; cases hk) _ e (Option.some.inj q)))]
  exact h1
theorem ns_off {w w' : World} {so : Option Addr} {l : List Nat} {g : Nat} (h : NsAt w so l) (q : w.grownBy w' (some g)) (hn : l ≠ [] → ∀ a, so = some a → a.block ≠ g) : NsAt w' so l := fun k hk => by
  obtain ⟨b, o, e, hc⟩ := h k hk
  refine ⟨b, o, e, fun i v hv => ?_⟩
  have h1 := hc i v hv
  rw [World.cell?_of_block (w := w) (q.block b (World.block_lt_of_cell? w _ h1) (fun q => hn (by intro e; subst e; cases hk) _ e (Option.some.inj q)))]
  exact h1
/-- The rows of a manifest under way lie in none of the blocks beside it. -/
theorem GS.apart {TM TP : TypeId} {w wr : World} {L0 : List (Nat × TypeId × Array Value)} {g sc cc : Nat} {m : Mf} {so co : Option Addr} (h : GS TM TP w L0 g m so sc co cc wr) {b : Nat} (hb : b ∈ L0.map (·.1) ++ [g]) :
    (m.sg ≠ [] → ∀ a, so = some a → a.block ≠ b) ∧ (m.ck ≠ [] → ∀ a, co = some a → a.block ≠ b) := by
  constructor
  · intro h0 a e q
    rcases h.ps.own.2 with ⟨hv, h1⟩ | ⟨g2, cap2, cur, hv, _⟩
    · exact h0 (List.eq_nil_of_length_eq_zero h1)
    · injection hv with e1
      rw [e] at e1
      have e2 : a = ⟨g2, 0, none⟩ := Option.some.inj e1
      subst e2
      exact h.ps.far b hb (by rw [e]; show some g2 = some b; rw [← q])
  · intro h0 a e q
    rcases h.ns.own.2 with ⟨hv, h1⟩ | ⟨g2, cap2, cur, hv, _⟩
    · exact h0 (List.eq_nil_of_length_eq_zero h1)
    · injection hv with e1
      rw [e] at e1
      have e2 : a = ⟨g2, 0, none⟩ := Option.some.inj e1
      subst e2
      exact h.ns.far b hb (by rw [e]; show some g2 = some b; rw [← q])
end Go.Proofs.YtakejacamkdncaaGreatDoor
