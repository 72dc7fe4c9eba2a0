/- Copy. -/
import Derived.Test.YthjhjbiihhpnfaaDi
import Derived.Test.YthjhjbiihhpnfaaDt
namespace Go.Proofs.Ythjhjbiihhpnfaa
open Go.RowKit Go.Shelf Go.Maps Go.Sort
set_option linter.unusedVariables false
set_option linter.unusedSimpArgs false
set_option maxRecDepth 100000
attribute [local go_sem] Oper.semAt_some

theorem eql_sl_none (w : World) : (binOp .eql 65 (.slice none 0 0) (.slice none 0 0)).run Try.prog w = .ok (.bool true) w := by kernel_rfl
theorem eql_sl_some (g n c : Nat) (w : World) : (binOp .eql 65 (.slice (some ⟨g, 0, none⟩) n c) (.slice none 0 0)).run Try.prog w = .ok (.bool false) w := by kernel_rfl
attribute [local go_sem] eql_sl_none eql_sl_some
theorem Dj.own {w w' : World} {gd m q B : Nat} {fs : List Fil} {row : Option Nat} (h : Dj w gd m q fs) (hm : m < B) (hg : w.grownBy w' row) (hr : ∀ r, row = some r → B ≤ r ∧ ∃ o : Obj, w.heap[r]? = some o ∧ o.isCells = false) : Dj w' gd m q fs := by
  refine h.tu (Tu.grown hg) fun x hx e => ?_
  obtain ⟨hB, o, ho, hc⟩ := hr x e.symm
  have notc : ∀ {t : TypeId} {cs : Array Value}, Cells w x t cs → False := fun hcs => by
    unfold Cells at hcs
    rw [ho] at hcs
    cases hcs
    cases hc
  rcases hx with rfl | rfl | ⟨f, hf, hx⟩
  · exact notc h.blk
  · omega
  · rcases hx with rfl | hx
    · exact notc (h.fil f hf).blk
    · obtain ⟨cs, h1, _⟩ := row_cells (h.fil f hf).row hx
      exact notc h1
def CpI (b bc gc mc : Nat) (w : World) (q : Nat) (fs : List Fil) (pre : List (Itm fs)) (W : World) : Prop :=
  ∃ fc, Dj W gc mc q fc ∧ (∀ e ∈ fc.map Fil.ent, e ∈ fs.map Fil.ent) ∧ Srt Fil.nm fc ∧ fc.length ≤ pre.length ∧ (pre.map Subtype.val <+: fs → fc.map Fil.ent = (pre.map Subtype.val).map Fil.ent) ∧
    Boxed W bc 22 (.pointer (some ⟨gc, 0, none⟩)) ∧ (∀ x, Foot gc mc fc x → b ≤ x) ∧ Below b w W
theorem cpI_own (b bc gc mc : Nat) (w : World) (q : Nat) (fs : List Fil) {B : Nat} (hm : mc < B) (hb : b ≤ w.heap.size) (hB : b ≤ B) : OwnFrom B (CpI b bc gc mc w q fs) := fun s A C row hs hg hr => by
  obtain ⟨fc, h1, h2, h3, h4, h5, h6, h7, h8⟩ := hs
  exact ⟨fc, h1.own hm hg hr, h2, h3, h4, h5, boxed_keep h6 hg (fun r e => (hr r e).2), h7, h8.grown hg (Nat.le_trans hb h8.size) (fun k e => Nat.le_trans hB (hr k e).1)⟩
/-- A file more in a list that is sorted: one that comes behind all. -/
theorem ins_last {fc : List Fil} {l : List Fil} {x : Fil} {f : Fil} (hs : Srt Fil.nm fc) (hx : Srt Fil.nm (l ++ [x])) (hl : fc.map Fil.ent = l.map Fil.ent) (hf : f.ent = x.ent) :
    (insK Fil.nm f (delK Fil.nm f.nm fc)).map Fil.ent = (l ++ [x]).map Fil.ent := by
  have hn : f.nm = x.nm := congrArg Ent.nm hf
  have hlt : ∀ y ∈ fc, y.nm < f.nm := fun y hy => by
    have : y.ent ∈ l.map Fil.ent := by rw [← hl]; exact List.mem_map_of_mem hy
    obtain ⟨z, hz, he⟩ := List.mem_map.1 this
    have h1 := (List.pairwise_append.1 hx).2.2 z hz x (by simp)
    rw [hn, ← show z.nm = y.nm from congrArg Ent.nm he]
    exact h1
  have hd : delK Fil.nm f.nm fc = fc := List.filter_eq_self.2 fun y hy => by
    have := nm_lt_ne (hlt y hy)
    simpa using this
  have hi := insK_at (k := Fil.nm) f fc [] hlt (by simp)
  rw [List.append_nil] at hi
  rw [hd, hi, List.map_append, List.map_append, hl]
  simp [hf]
theorem cp_done {b bc gd m gc mc q : Nat} {w1 W wd w2 w3 : World} {fs fc : List Fil} {pre : List (Itm fs)} {x : Itm fs} {ao' : Option Addr} {cap' : Nat} (hb1 : b ≤ bc) (hb2 : bc + 2 = w1.heap.size) (hgd : gd < b) (hm : m < b) (hmc : b ≤ mc) (hmc2 : mc < bc) (hfsrt : Srt Fil.nm fs)
    (hj : Dj W gc mc q fc) (hsub : ∀ e ∈ fc.map Fil.ent, e ∈ fs.map Fil.ent) (hsrt : Srt Fil.nm fc) (hfl : fc.length ≤ pre.length) (hex : pre.map Subtype.val <+: fs → fc.map Fil.ent = (pre.map Subtype.val).map Fil.ent)
    (hbc : Boxed W bc 22 (.pointer (some ⟨gc, 0, none⟩))) (hfoot : ∀ y, Foot gc mc fc y → b ≤ y) (hbl : Below b w1 W)
    (hs0 : Below W.heap.size W wd) (hrow : w2.ownsRow wd.heap.size 5 1 (.slice ao' x.1.bs.length cap') x.1.bs.length (bvs x.1.bs)) (hb2' : Below wd.heap.size wd w2)
    (hm3 : w3.ownsMap Try.prog 9 Rf mc (insK Fil.nm ⟨x.1.nm, w2.heap.size, ao', cap', x.1.bs, x.1.su⟩ (delK Fil.nm x.1.nm fc)).length (dmap (insK Fil.nm ⟨x.1.nm, w2.heap.size, ao', cap', x.1.bs, x.1.su⟩ (delK Fil.nm x.1.nm fc))))
    (ht3 : Tu (fun y => y = mc) (w2.alloc (.cells #[.slice ao' x.1.bs.length cap', .int .i64 x.1.su] 67)) w3) (B : Nat) (hB : B = bc + 2) :
    KeepsFrom B W w3 ∧ Kq gd m (bc + 1) B bc W w3 ∧ CpI b bc gc mc w1 q fs (pre ++ [x]) w3 := by
  have hszW := hbl.size
  have ha := below_alloc w2 (.cells #[.slice ao' x.1.bs.length cap', .int .i64 x.1.su] 67)
  have h2 : Below W.heap.size W w2 := hs0.trans (hb2'.mono hs0.size)
  have h3 : Below W.heap.size W (w2.alloc (.cells #[.slice ao' x.1.bs.length cap', .int .i64 x.1.su] 67)) := h2.trans (ha.mono h2.size)
  have hT : Tu (fun y => y = mc) W w3 := (Tu.new (S := fun y => y = mc) h3).trans ht3 (fun _ _ e => e)
  have hbc3 : Cells w3 bc 22 #[.pointer (some ⟨gc, 0, none⟩)] := Cells.tu (t := 22) hbc hT (by omega)
  have hfile := Cells.made w2 67 #[.slice ao' x.1.bs.length cap', .int .i64 x.1.su]
  have hml := hj.map.lt
  have h2s := h2.size
  have hsd := hs0.size
  have hf3 : FilAt w3 ⟨x.1.nm, w2.heap.size, ao', cap', x.1.bs, x.1.su⟩ := by
    refine ⟨hfile.tu ht3 (by omega), row_tu (ownsRow_base_a (hrow.alloc _) (Nat.zero_le _)) ht3 fun y hy e => ?_⟩
    have := (hrow.lt y hy).1
    omega
  have hinn : ∀ y, Fil.inn ⟨x.1.nm, w2.heap.size, ao', cap', x.1.bs, x.1.su⟩ y → W.heap.size ≤ y := by
    rintro y (e | e)
    · have : y = w2.heap.size := e
      omega
    · have := (hrow.lt y e).1
      omega
  have hj3 := hj.new h3
  have hput := hj3.put (f := ⟨x.1.nm, w2.heap.size, ao', cap', x.1.bs, x.1.su⟩) ht3 hm3 hf3 (fun y hy _ z hz hyz => by
    have h1 := hinn z hz
    have h2 := (hj.fil y hy).lt hyz
    omega)
  refine ⟨⟨hT.size, fun k o hk ho _ => ?_⟩, ?_, ?_⟩
  · exact (hT.block k (Array.getElem?_eq_some_iff.1 ho).1 (by omega)).trans ho
  · refine Kq.of_tu hT (by omega) (by omega) (by omega) (by omega) (by omega) (by omega) (fun y t cs hy => ⟨by have := hy.1; omega, fun a n c e => ?_⟩)
    rw [hbc3.cell] at e
    cases e
  · have hent : ∀ e ∈ (insK Fil.nm ⟨x.1.nm, w2.heap.size, ao', cap', x.1.bs, x.1.su⟩ (delK Fil.nm x.1.nm fc)).map Fil.ent, e ∈ fs.map Fil.ent := by
      intro e he
      obtain ⟨y, hy, rfl⟩ := List.mem_map.1 he
      rcases insK_mem.1 hy with rfl | hy
      · have h9 : x.1.ent ∈ fs.map Fil.ent := List.mem_map_of_mem (f := Fil.ent) x.2
        exact h9
      · exact hsub _ (List.mem_map_of_mem (delK_mem.1 hy).1)
    refine ⟨_, hput, hent, insK_srt _ _ (delK_srt _ hsrt) (fun y hy => (delK_mem.1 hy).2), ?_, fun hp => ?_, hbc3, ?_, ?_⟩
    · rw [insK_len, List.length_append]
      have : (delK Fil.nm x.1.nm fc).length ≤ fc.length := List.length_filter_le _ _
      simp only [List.length_cons, List.length_nil]
      omega
    · rw [List.map_append] at hp ⊢
      have hpre : pre.map Subtype.val <+: fs := (List.prefix_append _ _).trans hp
      exact ins_last hsrt (hfsrt.sublist hp.sublist) (hex hpre) rfl
    · rintro y (e | e | ⟨f, hf, hy⟩)
      · exact hfoot y (.inl e)
      · exact hfoot y (.inr (.inl e))
      · rcases insK_mem.1 hf with rfl | hf
        · have := hinn y hy
          omega
        · exact hfoot y (.inr (.inr ⟨f, (delK_mem.1 hf).1, hy⟩))
    · exact hbl.trans (hT.below (fun y hy => by omega) (by omega))
end Go.Proofs.Ythjhjbiihhpnfaa
