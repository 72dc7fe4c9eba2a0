/- Texts of the walk. -/
import Derived.Test.YtgeaacabpnepmaaGreatDoorDh8
import Derived.Test.YtgeaacabpnepmaaGreatDoorAd8
import Derived.OrdersIn
import Derived.RangeFuncCalls
import Derived.OwnWalkIn
import Derived.Shelf.SlGeneric
import Derived.Shelf.Strings.Repeat
import Derived.Shelf.Strings.OnBuilder
import Derived.Shelf.Strings.Prefix
import Derived.Shelf.Lays
import Derived.Test.YtgeaacabpnepmaaGreatDoorRows
/- Texts of elder layers, one behind the other. -/
/- Crash. -/
namespace Go.Proofs.YtgeaacabpnepmaaGreatDoor
open Go.RowKit Go.Shelf Go.Maps Go.Sort
set_option linter.unusedVariables false
set_option linter.unusedSimpArgs false
set_option maxRecDepth 100000
attribute [local go_sem] Oper.semAt_some

def Ints (w : World) (ao : Option Addr) (ks : List Int) : Prop :=
  ∀ j (h : j < ks.length), ∃ b o, ao = some ⟨b, o, none⟩ ∧ w.cell? ⟨b, o + j, none⟩ = some (.int .i64 (ks[j]'h)) ∧ -9223372036854775808 ≤ ks[j]'h ∧ ks[j]'h ≤ 9223372036854775807
theorem Ints.tu {S : Nat → Prop} {w w' : World} {ao : Option Addr} {ks : List Int} (h : Ints w ao ks) (k : Tu S w w') (hs : ∀ a, ao = some a → ¬ S a.block) : Ints w' ao ks := fun j hj => by
  obtain ⟨b, o, e, hc, hr⟩ := h j hj
  refine ⟨b, o, e, ?_, hr⟩
  have hlt := World.block_lt_of_cell? w _ hc
  rw [World.cell?_of_block (w := w) (k.block b hlt (hs _ e))]
  exact hc
theorem setE_mid {A B : List Ent} {e g : Ent} (hs : Srt Ent.nm (A ++ e :: B)) (hg : g.nm = e.nm) : setE g (A ++ e :: B) = A ++ g :: B := by
  have h1 := List.pairwise_append.1 hs
  have h2 := List.pairwise_cons.1 h1.2.1
  have keep : ∀ l : List Ent, (∀ y ∈ l, y.nm ≠ g.nm) → setE g l = l := fun l hl => by
    unfold setE
    conv => rhs; rw [← List.map_id l]
    exact List.map_congr_left fun y hy => if_neg (hl y hy)
  have ka := keep A fun y hy e' => nm_lt_ne (h1.2.2 y hy e (by simp)) (by rw [e', hg])
  have kb := keep B fun y hy e' => nm_lt_ne (h2.1 y hy) (by rw [e', hg])
  unfold setE at ka kb ⊢
  rw [List.map_append, List.map_cons, ka, kb, if_pos hg.symm]
theorem tears_step (ks : List Int) (E : List Ent) (k : Nat) (hk : k < E.length) : tears ks 0 (E.take k) ++ tearE (numAt ks k) (E[k]'hk) :: E.drop (k + 1) = tears ks 0 (E.take (k + 1)) ++ E.drop (k + 1) := by
  rw [List.take_succ_eq_append_getElem hk, tears_app]
  simp only [tears, List.length_take, List.append_assoc, List.cons_append, List.nil_append]
  rw [show 0 + min k E.length = k by omega]
theorem Dk.own {w w' : World} {gd m q B : Nat} {fs : List Fil} {row : Option Nat} (h : Dk w gd m q fs) (hm : m < B) (hg : w.grownBy w' row) (hr : ∀ r, row = some r → B ≤ r ∧ ∃ o : Obj, w.heap[r]? = some o ∧ o.isCells = false) : Dk w' gd m q fs := by
  refine h.tu (Tu.grown hg) fun x hx e => ?_
  obtain ⟨hB, o, ho, hc⟩ := hr x e.symm
  have notc : ∀ {t : TypeId} {cs : Array Value}, Cells w x t cs → False := fun hcs => by
    unfold Cells at hcs
    rw [ho] at hcs
    cases hcs
    cases hc
  rcases hx with rfl | rfl | ⟨f, hf, hx⟩
  · exact notc h.blk
  · omega
  · rcases hx with rfl | hx
    · exact notc (h.fil f hf).blk
    · obtain ⟨cs, h1, _⟩ := row_cells (h.fil f hf).row hx
      exact notc h1
theorem Tu.own {S : Nat → Prop} {w0 w w' : World} {B : Nat} {row : Option Nat} (h : Tu S w0 w) (hB : w0.heap.size ≤ B) (hg : w.grownBy w' row) (hr : ∀ r, row = some r → B ≤ r) : Tu S w0 w' :=
  h.trans (Tu.grown hg) (fun x hx e => by have := hr x e.symm; omega)
def Ftor (fs : List Fil) (x : Nat) : Prop := ∃ f ∈ fs, x = f.g
def CrI (b : Nat) (w : World) (kv : Value) (ks : List Int) (gd m q : Nat) (fs : List Fil) (pre : List (Itm fs)) (W : World) : Prop :=
  ∃ fs', Dk W gd m q fs' ∧ fs'.map Fil.key = fs.map Fil.key ∧ (∀ x, Foot gd m fs' x → Foot gd m fs x) ∧
    (pre.map Subtype.val <+: fs → fs'.map Fil.ent = tears ks 0 ((fs.map Fil.ent).take (pre.map Subtype.val).length) ++ (fs.map Fil.ent).drop (pre.map Subtype.val).length) ∧
    Boxed W b 42 kv ∧ Boxed W (b + 1) 3 (.int .i64 (pre.length : Nat)) ∧ Tu (fun x => Ftor fs x ∨ x = b + 1) w W
theorem crI_own (b : Nat) (w : World) (kv : Value) (ks : List Int) (gd m q : Nat) (fs : List Fil) {B : Nat} (hm : m < B) (hw : w.heap.size ≤ B) : OwnFrom B (CrI b w kv ks gd m q fs) := fun s A C row hs hg hr => by
  obtain ⟨fs', h1, h2, h3, h4, h5, h6, h7⟩ := hs
  exact ⟨fs', h1.own hm hg hr, h2, h3, h4, boxed_keep h5 hg (fun r e => (hr r e).2), boxed_keep h6 hg (fun r e => (hr r e).2), h7.own hw hg (fun r e => (hr r e).1)⟩
theorem key_find {fs fs' : List Fil} (h : fs'.map Fil.key = fs.map Fil.key) (hs : Srt Fil.nm fs') {f : Fil} (hf : f ∈ fs) : ∃ f', fndK Fil.nm f.nm fs' = some f' ∧ f'.g = f.g ∧ f'.nm = f.nm := by
  have : f.key ∈ fs'.map Fil.key := by rw [h]; exact List.mem_map_of_mem hf
  obtain ⟨f', hf', he⟩ := List.mem_map.1 this
  injection he with e1 e2
  exact ⟨f', by rw [← e1]; exact fndK_of_mem hs hf', e2, e1⟩
theorem cr_step {q : Nat} {fs fs' l : List Fil} {ks : List Int} {x f' : Fil} (hG : DGood q (fs'.map Fil.ent)) (hf : fndK Fil.nm x.nm fs' = some f')
    (h : l <+: fs → fs'.map Fil.ent = tears ks 0 ((fs.map Fil.ent).take l.length) ++ (fs.map Fil.ent).drop l.length) (hp : l ++ [x] <+: fs) :
    setE (tearE (numAt ks l.length) f'.ent) (fs'.map Fil.ent) = tears ks 0 ((fs.map Fil.ent).take (l.length + 1)) ++ (fs.map Fil.ent).drop (l.length + 1) := by
  have hpre : l <+: fs := (List.prefix_append _ _).trans hp
  obtain ⟨t, rfl⟩ := hp
  have hE := h hpre
  have hlt' : l.length < ((l ++ [x] ++ t).map Fil.ent).length := by simp
  have hxe : ((l ++ [x] ++ t).map Fil.ent)[l.length]'hlt' = x.ent := by simp
  have hd : ((l ++ [x] ++ t).map Fil.ent).drop l.length = x.ent :: ((l ++ [x] ++ t).map Fil.ent).drop (l.length + 1) := by rw [List.drop_eq_getElem_cons hlt', hxe]
  have hst := tears_step ks ((l ++ [x] ++ t).map Fil.ent) l.length hlt'
  rw [hxe] at hst
  rw [hd] at hE
  generalize (l ++ [x] ++ t).map Fil.ent = E at *
  have hs := hG.srt
  have hfe : f'.ent = x.ent := by
    have h1 : fnd x.nm (fs'.map Fil.ent) = some f'.ent := by rw [ent_map, hf]; rfl
    have h2 : fnd x.ent.nm (fs'.map Fil.ent) = some x.ent := fndK_of_mem hs (by rw [hE]; simp)
    exact Option.some.inj (h1.symm.trans h2)
  rw [hfe, hE]
  rw [hE] at hs
  rw [setE_mid (g := tearE (numAt ks l.length) x.ent) hs rfl, hst]
theorem numAt_range {w : World} {ao : Option Addr} {ks : List Int} (h : Ints w ao ks) (i : Nat) : -9223372036854775808 ≤ numAt ks i ∧ numAt ks i ≤ 9223372036854775807 := by
  unfold numAt
  split
  · omega
  · rename_i hn
    have hp : 0 < ks.length := List.length_pos_iff.2 hn
    have hlt : i % ks.length < ks.length := Nat.mod_lt _ hp
    obtain ⟨_, _, _, _, h1, h2⟩ := h _ hlt
    rw [List.getElem?_eq_getElem hlt]
    exact ⟨h1, h2⟩
theorem cr_done {b gd m q : Nat} {w1 W Wb Wc : World} {kv : Value} {ks : List Int} {fs fs' : List Fil} {pre : List (Itm fs)} {x : Itm fs} {f' : Fil} (hb : b + 3 ≤ w1.heap.size) (hgd : gd < b) (hmb : m < b) (hfb : ∀ f ∈ fs, f.g < b)
    (hd : Dk W gd m q fs') (hkey : fs'.map Fil.key = fs.map Fil.key) (hfoot : ∀ x, Foot gd m fs' x → Foot gd m fs x)
    (hex : pre.map Subtype.val <+: fs → fs'.map Fil.ent = tears ks 0 ((fs.map Fil.ent).take (pre.map Subtype.val).length) ++ (fs.map Fil.ent).drop (pre.map Subtype.val).length)
    (hk : Boxed W b 42 kv) (hx : Boxed W (b + 1) 3 (.int .i64 (pre.length : Nat))) (htu : Tu (fun x => Ftor fs x ∨ x = b + 1) w1 W) (hf' : fndK Fil.nm x.1.nm fs' = some f') (hg' : f'.g = x.1.g)
    (hbb : Below W.heap.size W Wb) (hfil : FilAt Wc (f'.torn (numAt ks pre.length))) (hgr : Wb.grownBy Wc (some x.1.g)) (u : Nat) (hu : u = pre.length + 1) :
    KeepsOthers W (Wc.setCell ⟨b + 1, 0, none⟩ (.int .i64 (u : Nat))) ∧ Kq gd m (b + 1 + 1) w1.heap.size (b + 1) W (Wc.setCell ⟨b + 1, 0, none⟩ (.int .i64 (u : Nat))) ∧ CrI b w1 kv ks gd m q fs (pre ++ [x]) (Wc.setCell ⟨b + 1, 0, none⟩ (.int .i64 (u : Nat))) := by
  have hsz := htu.size
  have hxb := hfb x.1 x.2
  have hmem := (fndK_some hf').1
  have hgb : Cells Wb f'.g 183 #[f'.v, .int .i64 f'.su] := (hd.fil f' hmem).blk.below hbb (hd.fil f' hmem).blk.lt
  have hxc : Boxed Wc (b + 1) 3 (.int .i64 (pre.length : Nat)) := by
    have h1 : Cells Wb (b + 1) 3 #[.int .i64 (pre.length : Nat)] := Cells.below (t := 3) hx hbb (by omega)
    exact Cells.grown (t := 3) h1 hgr (by simp; omega)
  have hkc : Boxed Wc b 42 kv := by
    have h1 : Cells Wb b 42 #[kv] := Cells.below (t := 42) hk hbb (by omega)
    exact Cells.grown (t := 42) h1 hgr (by simp; omega)
  have ht1 : Tu (fun y => y = x.1.g) W Wc := (Tu.new (S := fun y => y = x.1.g) hbb).trans (Tu.grown hgr) (fun _ _ e => Option.some.inj e)
  have ht2 : Tu (fun y => y = x.1.g ∨ y = b + 1) W (Wc.setCell ⟨b + 1, 0, none⟩ (.int .i64 (u : Nat))) := (ht1.mono (fun _ _ e => .inl e)).trans (Tu.grown (grown_set Wc (b + 1) 0 _)) (fun _ _ e => .inr (Option.some.inj e))
  have hxd := hxc.set (.int .i64 (u : Nat))
  refine ⟨?_, ?_, ?_⟩
  · refine (KeepsOthers.trans ⟨hbb.size, fun k o hk ho => (hbb.block k (Array.getElem?_eq_some_iff.1 hk).1).trans hk⟩ (KeepsOthers.of_grownBy hgr fun j o ej hj => ?_)).trans (KeepsOthers.setCell _ _ _)
    have e : x.1.g = j := Option.some.inj ej
    rw [← hg'] at e
    subst e
    unfold Cells at hgb
    rw [hgb] at hj
    cases hj
    rfl
  · have hne1 : gd ≠ x.1.g := fun e => hd.toDj.gd_fil hmem (.inl (by rw [hg']; exact e))
    have hne2 : m ≠ x.1.g := fun e => hd.toDj.m_fil hmem (.inl (by rw [hg']; exact e))
    refine Kq.of_tu ht2 (by omega) (by omega) (by omega) (by rintro (e | e) <;> omega) (by rintro (e | e) <;> omega) (by rintro (e | e) <;> omega) (fun y t cs hy => ⟨by have := hy.1; omega, fun a n c e => ?_⟩)
    rw [hxd.cell] at e
    cases e
  · have hfd : FilAt (Wc.setCell ⟨b + 1, 0, none⟩ (.int .i64 (u : Nat))) (f'.torn (numAt ks pre.length)) := by
      refine hfil.tu (Tu.grown (grown_set Wc (b + 1) 0 _)) fun y hy e => ?_
      have hy2 := torn_inn f' _ y hy
      have e2 : y = b + 1 := Option.some.inj e
      subst e2
      have hff := hd.fil f' hmem
      rcases hy2 with h | h
      · omega
      · exact row_unlike hff.row (show Cells W (b + 1) 3 #[.int .i64 (pre.length : Nat)] from hx) (by decide) h
    have hf1 := hd.good.sure f'.ent (List.mem_map_of_mem hmem)
    have hf2 := hd.good.most f'.ent (List.mem_map_of_mem hmem)
    have hte := tearE_len hf1 (numAt ks pre.length)
    have hfe : fnd x.1.nm (fs'.map Fil.ent) = some f'.ent := by rw [ent_map, hf']; rfl
    have hGG : DGood q (setE (f'.torn (numAt ks pre.length)).ent (fs'.map Fil.ent)) := by
      rw [torn_ent]
      refine good_set hd.good hfe rfl ?_ ?_ ?_
      · omega
      · omega
      · have := hd.good.use; omega
    -- first the file's own turn, then the loop's counter
    have hd2 : ∃ fs'', Dk (Wc.setCell ⟨b + 1, 0, none⟩ (.int .i64 (u : Nat))) gd m q fs'' ∧ fs''.map Fil.ent = setE (f'.torn (numAt ks pre.length)).ent (fs'.map Fil.ent) ∧ (∀ y, Foot gd m fs'' y → Foot gd m fs' y ∨ (f'.torn (numAt ks pre.length)).inn y) ∧ fs''.map Fil.key = fs'.map Fil.key := by
      have hdc := hd.new hbb
      have hfc : FilAt Wc (f'.torn (numAt ks pre.length)) := hfil
      obtain ⟨fs2, h1, h2, h3, h4⟩ := hdc.turnAt2 (f' := f'.torn (numAt ks pre.length)) hf' ((Tu.grown hgr).mono fun y _ e => .inl (by rw [hg']; exact Option.some.inj e)) hfc rfl rfl (fun y hy => .inl (torn_inn f' _ y hy)) hGG
      refine ⟨fs2, h1.tu (Tu.grown (grown_set Wc (b + 1) 0 _)) fun y hy e => ?_, h2, h3, h4⟩
      have e2 : y = b + 1 := Option.some.inj e
      subst e2
      rcases hy with e3 | e3 | ⟨f2, hf2', e3⟩
      · omega
      · omega
      · have hc2 : Cells Wc (b + 1) 3 #[.int .i64 (pre.length : Nat)] := hxc
        rcases e3 with e3 | e3
        · exact Cells.unlike hc2 (h1.fil f2 hf2').blk (by decide) e3
        · exact row_unlike (h1.fil f2 hf2').row hc2 (by decide) e3
    obtain ⟨fs2, h1, h2, h3, h4⟩ := hd2
    have hl : (pre.map Subtype.val).length = pre.length := List.length_map ..
    have hl2 : ((pre ++ [x]).map Subtype.val).length = pre.length + 1 := by simp
    refine ⟨fs2, h1, h4.trans hkey, fun y hy => ?_, fun hp => ?_, ?_, ?_, ?_⟩
    · rcases h3 y hy with h | h
      · exact hfoot y h
      · exact hfoot y (.inr (.inr ⟨f', hmem, torn_inn f' _ y h⟩))
    · rw [h2, torn_ent, hl2]
      have hst := cr_step (l := pre.map Subtype.val) (x := x.1) hd.good hf' hex (by rw [List.map_append] at hp; exact hp)
      rw [hl] at hst
      exact hst
    · exact hkc.other (by omega) _
    · rw [show (pre ++ [x]).length = u by simp; omega]
      exact hxd
    · exact htu.trans ht2 (fun y _ e => e.elim (fun e => .inl ⟨x.1, x.2, e⟩) .inr)
set_option maxHeartbeats 2000000 in
theorem crash_c {gd m q cap : Nat} {fs : List Fil} {ao : Option Addr} {ks : List Int} (w : World) (h : Dk w gd m q fs) (hi : Ints w ao ks) (hkl : ks.length ≤ maxLen) (hkf : ∀ a, ao = some a → ks ≠ [] → ¬ Foot gd m fs a.block ∧ a.block < w.heap.size) :
    Calls Tryz.prog 115 #[.pointer (some ⟨gd, 0, none⟩), .slice ao ks.length cap] w fun E w' => E = .returned (.tuple #[]) ∧
      (∃ fs', Dk w' gd m q fs' ∧ fs'.map Fil.ent = aCrash ks (fs.map Fil.ent) ∧ ∀ x, Foot gd m fs' x → Foot gd m fs x) ∧ Tu (Ftor fs) w w' := by
  obtain ⟨hlen, hnl, hmost, hsure, _⟩ := h.names
  simp only [maxLen] at hkl
  have HD := Lib.hid h
  have HI := Lib.hid hi
  have HKF := Lib.hid hkf
  have HM := Lib.hid hmost
  have HS := Lib.hid hsure
  clear h hi hkf hmost hsure
  refine (callsIn_wide (n := 12)).1 ?_
  refine callsIn_of_wp_marks Tryz.func115 rfl trivial ?_ rfl
  simp only [Tryz.ntmps115, List.size_toArray, List.length_cons, List.length_nil, Nat.reduceAdd, Nat.reduceSub, Array.replicate_succ, Array.replicate_zero, List.push_toArray, List.append_toArray, List.nil_append, List.cons_append]
  gi_wp2
  refine ⟨trivial, (callsIn_wide.2 (inOrder_c _ _)).mono ?_⟩
  rintro E w1 ⟨rfl, hw1⟩
  gi_wp2
  have hsz1 : w1.heap.size = w.heap.size + 3 := by rw [← hw1]; simp
  have hB1 : Below w.heap.size w w1 := by
    rw [← hw1]; exact ((below_alloc w _).trans ((below_alloc _ _).mono (by simp))).trans ((below_alloc _ _).mono (by simp; omega))
  have hbk : Boxed w1 w.heap.size 42 (.slice ao ks.length cap) := by
    rw [← hw1]
    exact ((Boxed.new w 42 (.slice ao ks.length cap)).alloc _).alloc _
  have hbx : Boxed w1 (w.heap.size + 1) 3 (.int .i64 0) := by
    rw [← hw1]
    have := Boxed.new (w.alloc (.cells #[.slice ao ks.length cap] 42)) 3 (.int .i64 0)
    rw [World.size_alloc] at this
    exact this.alloc _
  have hcb : Cells w1 (w.heap.size + 1 + 1) 28 #[.pointer (some ⟨gd, 0, none⟩)] := by
    rw [← hw1]
    have := Cells.made ((w.alloc (.cells #[.slice ao ks.length cap] 42)).alloc (.cells #[.int .i64 0] 3)) 28 #[.pointer (some ⟨gd, 0, none⟩)]
    simpa using this
  have hd1 : Dk w1 gd m q fs := HD.out.new hB1
  have hgl := HD.out.blk.lt
  have hml := HD.out.map.lt
  have hcx := hbx.cell
  clear hw1
  refine wpIn_rangeFunc_ownF rfl (by omega) (gf := 126) (lb := #[.pointer (some ⟨w.heap.size + 1 + 1, 0, none⟩)]) rfl trivial (enters_of Tryz.func126 (by kernel_rfl) rfl)
    (inOrder_stops (12 - 1) (by omega) gd m q (w.heap.size + 1 + 1) w1.heap.size (w.heap.size + 1) fs hd1.srt (by omega) (fun f hf => Nat.le_trans (hnl f hf) (by decide)) w1 (Nat.le_refl _) (by omega) (fun a n c e => by rw [hcx] at e; cases e) hd1.dn hcb)
    Kq.trans (Kq.put (by omega) (by omega) (by omega) (by omega)) (Below.refl _ _) (fun _ => rfl)
    (CrI w.heap.size w1 (.slice ao ks.length cap) ks gd m q fs) (NoX fs) (crI_own _ _ _ _ _ _ _ _ (by omega) (by omega)) (fun c => noX_own fs _ c)
    ⟨fs, hd1, rfl, fun _ h => h, fun _ => by simp [tears], hbk, hbx, Tu.refl _ _⟩
    (fun x => { tmps := #[.pointer (some ⟨gd, 0, none⟩), .slice ao ks.length cap, undef, .pointer (some ⟨w.heap.size, 0, none⟩), .pointer (some ⟨w.heap.size + 1, 0, none⟩), undef, .pointer (some ⟨x.1.g, 0, none⟩), undef, .pointer (some ⟨gd, 0, none⟩), .func (.func 126) #[] #[.pointer (some ⟨w.heap.size + 1 + 1, 0, none⟩)], .string (str x.1.nm), .pointer (some ⟨x.1.g, 0, none⟩), undef, undef, undef, undef, undef, undef, undef, undef, undef, undef, undef, undef, undef, undef, undef], defers := [] }) ?assign ?body ?done ?stop
  case assign =>
    intro l x W K hK
    gi_wp2
    exact hK
  case body =>
    rintro l pre x W ⟨fs', hd, hkey, hfoot, hex, hk, hx, htu⟩ hlt
    have hlt' : pre.length < fs.length := hlt
    obtain ⟨f', hf', hg', hn'⟩ := key_find hkey hd.srt x.2
    have hmem := (fndK_some hf').1
    have hfa := hd.fil f' hmem
    have hck := hk.cell
    have hcx := hx.cell
    have hfx := hx.frozen
    have hsz := htu.size
    have hints : Ints W ao ks := by
      by_cases hks : ks = []
      · intro j hj
        rw [hks] at hj
        cases hj
      refine (HI.out.tu (S := fun _ => False) (.new hB1) (fun _ _ h => h)).tu htu (fun a ha => ?_)
      obtain ⟨h1, h2⟩ := HKF.out a ha hks
      rintro (⟨f, hf, e⟩ | e)
      · exact h1 (.inr (.inr ⟨f, hf, .inl e⟩))
      · omega
    have hnr := numAt_range hints pre.length
    have CT : Hid (∀ W', Below W.heap.size W W' → Calls Tryz.prog 158 #[.pointer (some ⟨x.1.g, 0, none⟩), .int .i64 (numAt ks pre.length)] W' fun E w' => E = .returned (.tuple #[]) ∧ FilAt w' (f'.torn (numAt ks pre.length)) ∧ W'.grownBy w' (some x.1.g)) := fun W' hW' => by
      have := tear_c (numAt ks pre.length) W' (hfa.tu (S := fun _ => False) (.new hW') (fun _ _ h => h)) (hd.good.sure f'.ent (List.mem_map_of_mem hmem)) (hd.good.most f'.ent (List.mem_map_of_mem hmem)) hnr
      rw [hg'] at this
      exact this
    have hx63 : IntKind.i64.wrap ((pre.length : Int) + 1) = ((pre.length + 1 : Nat) : Int) := by rw [IntWalk.i64_in _ (by omega)]; omega
    have HX := Lib.hid hx
    have HK := Lib.hid hk
    have HTU := Lib.hid htu
    have HDD := Lib.hid hd
    have HFA := Lib.hid hfa
    have HEX := Lib.hid hex
    have HKEY := Lib.hid hkey
    have HFT := Lib.hid hfoot
    have HF' := Lib.hid hf'
    have hmx : Tryz.prog.follows .mixedOrders = true := by kernel_rfl
    clear hex hkey hx hk htu hd hfa hf' hlt hmem hfoot
    have hfb : ∀ f ∈ fs, f.g < w.heap.size := fun f hf => (HD.out.fil f hf).blk.lt
    have HFB := Lib.hid hfb
    have FIN : Hid (∀ (Wb Wc : World), Below W.heap.size W Wb → FilAt Wc (f'.torn (numAt ks pre.length)) → Wb.grownBy Wc (some x.1.g) → ∀ u : Nat, u = pre.length + 1 → KeepsOthers W (Wc.setCell ⟨w.heap.size + 1, 0, none⟩ (.int .i64 (u : Nat))) ∧ Kq gd m (w.heap.size + 1 + 1) w1.heap.size (w.heap.size + 1) W (Wc.setCell ⟨w.heap.size + 1, 0, none⟩ (.int .i64 (u : Nat))) ∧ CrI w.heap.size w1 (.slice ao ks.length cap) ks gd m q fs (pre ++ [x]) (Wc.setCell ⟨w.heap.size + 1, 0, none⟩ (.int .i64 (u : Nat)))) :=
      fun Wb Wc h1 h2 h3 u hu => cr_done (by omega) hgl hml HFB.out HDD.out HKEY.out HFT.out HEX.out HK.out HX.out HTU.out HF'.out hg' h1 h2 h3 u hu
    have CX : Hid (∀ (Wb Wc : World), Below W.heap.size W Wb → Wb.grownBy Wc (some x.1.g) → Boxed Wc (w.heap.size + 1) 3 (.int .i64 (pre.length : Nat))) := fun Wb Wc h1 h2 => by
      have hxb := HFB.out x.1 x.2
      have h3 : Cells Wb (w.heap.size + 1) 3 #[.int .i64 (pre.length : Nat)] := Cells.below (t := 3) HX.out h1 (by omega)
      exact Cells.grown (t := 3) h3 h2 (by simp; omega)
    clear hfb
    generalize hu : pre.length + 1 = u at hx63
    have HU := Lib.hid hu.symm
    clear hu
    by_cases hks : ks = []
    · have hn0 : numAt ks pre.length = 0 := by unfold numAt; rw [if_pos hks]
      have hkl0 : ks.length = 0 := by rw [hks]; rfl
      rw [hn0] at CT FIN
      rw [hkl0] at hck
      clear hks hn0 hkl0 hints hnr
      gi_wp2
      refine ⟨trivial, (CallsIn.inRound l (callsIn_wide.2 (CT.out W (Below.refl _ _)))).mono ?_⟩
      rintro E Wc ⟨rfl, hfil, hgr⟩
      have hbc := CX.out W Wc (Below.refl _ _) hgr
      have hcx := hbc.cell
      have hfx := hbc.frozen
      have HFI := Lib.hid hfil
      have HGR := Lib.hid hgr
      clear hfil hgr hbc
      gi_wp2
      exact FIN.out W Wc (Below.refl _ _) HFI.out HGR.out u HU.out
    · have hkp : 0 < ks.length := List.length_pos_iff.2 hks
      obtain ⟨kk, hkk⟩ : ∃ kk : Nat, pre.length % ks.length = kk := ⟨_, rfl⟩
      have hkl2 : kk < ks.length := by rw [← hkk]; exact Nat.mod_lt _ hkp
      obtain ⟨b, o, rfl, hcell, _⟩ := hints kk hkl2
      have hn1 : numAt ks pre.length = ks[kk]'hkl2 := by unfold numAt; rw [if_neg hks, hkk, List.getElem?_eq_getElem hkl2]; rfl
      rw [← hn1] at hcell
      have hrem : (pre.length : Int) % (ks.length : Int) = (kk : Int) := by rw [← hkk]; rfl
      have hrem2 : (pre.length : Int).tmod (ks.length : Int) = (kk : Int) := by rw [← hkk]; rfl
      clear hn1 hkk hks hints hnr
      generalize numAt ks pre.length = nu at *
      obtain ⟨kn, hkn⟩ : ∃ kn, ks.length = kn := ⟨_, rfl⟩
      rw [hkn] at hck hkp hrem hrem2 hkl2 hkl
      clear hkn
      gi_wp2
      gi_region_o
      all_goals gi_wp2
      all_goals (
        have hb0 : Below W.heap.size W W.drew := (Below.refl _ W).drew
        refine ⟨trivial, (CallsIn.inRound l (callsIn_wide.2 (CT.out W.drew hb0))).mono ?_⟩
        rintro E Wc ⟨rfl, hfil, hgr⟩
        have hbc := CX.out W.drew Wc hb0 hgr
        have hcx := hbc.cell
        have hfx := hbc.frozen
        have HFI := Lib.hid hfil
        have HGR := Lib.hid hgr
        have HB0 := Lib.hid hb0
        clear hfil hgr hbc hb0
        gi_wp2
        exact FIN.out W.drew Wc HB0.out HFI.out HGR.out u HU.out)
  case done =>
    rintro D xs W hD hxs ⟨fs', hd, hkey, hfoot, hex, hk, hx, htu⟩ hK
    have hE := hex (by rw [hxs]; exact List.prefix_refl _)
    rw [hxs] at hE
    have hl : (fs.map Fil.ent).length = fs.length := by simp
    rw [← hl, List.take_length, List.drop_length, List.append_nil] at hE
    have hrow : ∀ r, some D = some r → w1.heap.size ≤ r ∧ ∃ o : Obj, W.heap[r]? = some o ∧ o.isCells = false := fun r e => by cases e; exact ⟨hD, _, hK, rfl⟩
    have hgp := grownBy_putObj' W D (.deferred none)
    have hd3 := hd.own (by omega) hgp hrow
    have ht3 := htu.own (Nat.le_refl _) hgp (fun r e => (hrow r e).1)
    have HD3 := Lib.hid hd3
    have HT3 := Lib.hid ht3
    have HE := Lib.hid hE
    have HFT := Lib.hid hfoot
    clear hE hl hrow hgp hd3 ht3 hd hkey hfoot hex hk hx htu hxs
    gi_wp2
    refine ⟨by simp, .inl ⟨_, _, rfl, run_takeDeferred hK, ?_⟩⟩
    refine ⟨_, results_none rfl _ _ _, rfl, ⟨fs', HD3.out, HE.out, HFT.out⟩, ?_⟩
    refine ((Tu.new (S := Ftor fs) hB1).trans HT3.out (fun y hy e => ?_))
    rcases e with e | e
    · exact e
    · omega
  case stop =>
    rintro D c pre W hD hpre h hK
    exact h.elim
theorem crash_s {S : Nat → Prop} {v : Value} {q cap : Nat} {E : List Ent} {ao : Option Addr} {ks : List Int} (w : World) (h : DkS S w v q E) (hi : Ints w ao ks) (hkl : ks.length ≤ maxLen) (hkf : ∀ a, ao = some a → ks ≠ [] → ¬ S a.block ∧ a.block < w.heap.size) :
    Calls Tryz.prog 115 #[v, .slice ao ks.length cap] w fun R w' => R = .returned (.tuple #[]) ∧ DkS S w' v q (aCrash ks E) ∧ Tu S w w' := by
  obtain ⟨gd, m, fs, rfl, hd, rfl, hF⟩ := h
  refine (crash_c w hd hi hkl (fun a ha hn => ⟨fun hf => (hkf a ha hn).1 (hF _ hf), (hkf a ha hn).2⟩)).mono ?_
  rintro R w' ⟨rfl, ⟨fs', h1, h2, h3⟩, ht⟩
  exact ⟨rfl, ⟨gd, m, fs', rfl, h1, h2, fun x hx => hF x (h3 x hx)⟩, ht.mono fun x _ hx => by
    obtain ⟨f, hf, e⟩ := hx
    exact hF x (.inr (.inr ⟨f, hf, .inl e⟩))⟩
end Go.Proofs.YtgeaacabpnepmaaGreatDoor
/- A drawn region in a round of a loop over a range function, walked as a plain one (wpTill). Nothing of the program. -/
namespace Go.Proofs.YtgeaacabpnepmaaGreatDoor
open Go.RowKit
set_option linter.unusedVariables false

end Go.Proofs.YtgeaacabpnepmaaGreatDoor
/- Copy. -/
namespace Go.Proofs.YtgeaacabpnepmaaGreatDoor
open Go.RowKit Go.Shelf Go.Maps Go.Sort
set_option linter.unusedVariables false
set_option linter.unusedSimpArgs false
set_option maxRecDepth 100000
attribute [local go_sem] Oper.semAt_some

theorem eql_sl_none (w : World) : (binOp .eql 181 (.slice none 0 0) (.slice none 0 0)).run Tryz.prog w = .ok (.bool true) w := by kernel_rfl
theorem eql_sl_some (g n c : Nat) (w : World) : (binOp .eql 181 (.slice (some ⟨g, 0, none⟩) n c) (.slice none 0 0)).run Tryz.prog w = .ok (.bool false) w := by kernel_rfl
attribute [local go_sem] eql_sl_none eql_sl_some
end Go.Proofs.YtgeaacabpnepmaaGreatDoor
/- The law's own helpers: some, torn, works. -/
namespace Go.Proofs.YtgeaacabpnepmaaGreatDoor
open Go.RowKit Go.Shelf
set_option linter.unusedVariables false
set_option linter.unusedSimpArgs false
set_option maxRecDepth 100000

def nA : List UInt8 := [97]
def e0 : Ent := ⟨nA, [49, 50, 51, 52, 53], 3⟩
structure Own (b : Nat) (w0 w : World) (v : Value) (q : Nat) (E : List Ent) : Prop where
  dk : DkS (fun x => b ≤ x) w v q E
  be : Below b w0 w
  le : b ≤ w0.heap.size
end Go.Proofs.YtgeaacabpnepmaaGreatDoor
/- One act on a disk. -/
namespace Go.Proofs.YtgeaacabpnepmaaGreatDoor
open Go.RowKit Go.Shelf
set_option linter.unusedVariables false
set_option linter.unusedSimpArgs false
set_option maxRecDepth 100000

end Go.Proofs.YtgeaacabpnepmaaGreatDoor
/- Acts in a slice; few. -/
namespace Go.Proofs.YtgeaacabpnepmaaGreatDoor
open Go.RowKit Go.Shelf
set_option linter.unusedVariables false
set_option linter.unusedSimpArgs false
set_option maxRecDepth 100000

end Go.Proofs.YtgeaacabpnepmaaGreatDoor
/- What an act leaves of another name; a whole act loaded; what is asked of a disk, in one word each. -/
namespace Go.Proofs.YtgeaacabpnepmaaGreatDoor
open Go.RowKit Go.Shelf
set_option linter.unusedVariables false
set_option linter.unusedSimpArgs false
set_option maxRecDepth 100000

theorem list_s {S : Nat → Prop} {v : Value} {q : Nat} {E : List Ent} (w : World) (h : DkS S w v q E) :
    Calls Tryz.prog 33 #[v] w fun R w' => ∃ u, R = .returned u ∧ Lst w' w.heap.size u (E.map Ent.nm) ∧ Below w.heap.size w w' := by
  obtain ⟨gd, m, fs, rfl, hd, rfl, _⟩ := h
  have : (fs.map Fil.ent).map Ent.nm = fs.map Fil.nm := by rw [List.map_map]; rfl
  rw [this]
  exact list_c w hd
end Go.Proofs.YtgeaacabpnepmaaGreatDoor
/- The tables by which contracts of the library are laid at this program: of each number of theirs the program's own. Written by a tool for this seat alone. -/
namespace Go.Proofs.YtgeaacabpnepmaaGreatDoor
open Go.Shelf
def Tryz.joinA_ren : Go.Shelf.Ren := ⟨fun | 156 => 203 | 165 => 233 | 166 => 234 | 169 => 235 | 240 => 272 | 241 => 273 | 276 => 301 | 277 => 302 | n => n, fun | 31 => 78 | 9 => 9 | 3 => 3 | 4 => 4 | 0 => 0 | 20 => 20 | 72 => 306 | 76 => 309 | 70 => 304 | 37 => 181 | 75 => 308 | 127 => 343 | 164 => 353 | 5 => 5 | 80 => 275 | n => n, fun | n => n⟩
theorem Tryz.joinA : Go.Proofs.Lays.n156 Tryz.prog Tryz.joinA_ren := {
  mixed := by kernel_rfl
  f156 := Tryz.func203.trans (congrArg some (by kernel_rfl))
  f165 := Tryz.func233.trans (congrArg some (by kernel_rfl))
  f166 := Tryz.func234.trans (congrArg some (by kernel_rfl))
  f169 := Tryz.func235.trans (congrArg some (by kernel_rfl))
  f240 := Tryz.func272.trans (congrArg some (by kernel_rfl))
  f241 := Tryz.func273.trans (congrArg some (by kernel_rfl))
  f276 := Tryz.func301.trans (congrArg some (by kernel_rfl))
  f277 := Tryz.func302.trans (congrArg some (by kernel_rfl))
  t0 := Tryz.underlying0
  a0 := Tryz.isAgg0
  z0 := Tryz.sizeOf0
  v0 := Tryz.zeroValue0
  t3 := Tryz.underlying3
  a3 := Tryz.isAgg3
  z3 := Tryz.sizeOf3
  v3 := Tryz.zeroValue3
  t4 := Tryz.underlying4
  a4 := Tryz.isAgg4
  z4 := Tryz.sizeOf4
  v4 := Tryz.zeroValue4
  t9 := Tryz.underlying9
  a9 := Tryz.isAgg9
  z9 := Tryz.sizeOf9
  v9 := Tryz.zeroValue9
  t20 := Tryz.underlying20
  a20 := Tryz.isAgg20
  z20 := Tryz.sizeOf20
  v20 := Tryz.zeroValue20
  t31 := Tryz.underlying78
  a31 := Tryz.isAgg78
  z31 := Tryz.sizeOf78
  v31 := Tryz.zeroValue78
  t37 := Tryz.underlying181
  a37 := Tryz.isAgg181
  z37 := Tryz.sizeOf181
  v37 := Tryz.zeroValue181
  t70 := Tryz.underlying304
  a70 := Tryz.isAgg304
  z70 := Tryz.sizeOf304
  v70 := Tryz.zeroValue304
  t72 := Tryz.underlying306
  a72 := Tryz.isAgg306
  z72 := Tryz.sizeOf306
  v72 := Tryz.zeroValue306
  t75 := Tryz.underlying308
  a75 := Tryz.isAgg308
  z75 := Tryz.sizeOf308
  v75 := Tryz.zeroValue308
  t76 := Tryz.underlying309
  a76 := Tryz.isAgg309
  z76 := Tryz.sizeOf309
  v76 := Tryz.zeroValue309
  t127 := Tryz.underlying343
  a127 := Tryz.isAgg343
  z127 := Tryz.sizeOf343
  v127 := Tryz.zeroValue343
  t164 := Tryz.underlying353
  a164 := Tryz.isAgg353
  z164 := Tryz.sizeOf353
  v164 := Tryz.zeroValue353 }
end Go.Proofs.YtgeaacabpnepmaaGreatDoor
/- The library's Join, HasPrefix, Repeat here; what a crash leaves, file by file; lists of names. -/
namespace Go.Proofs.YtgeaacabpnepmaaGreatDoor
open Go.RowKit Go.Shelf
set_option linter.unusedVariables false
set_option linter.unusedSimpArgs false
set_option maxRecDepth 100000

theorem exJ : Builder.Extra Tryz.prog Tryz.joinA_ren := { sizeBuilder := by kernel_rfl, liesBuilder := by kernel_rfl, t5 := Tryz.underlying5, a5 := Tryz.isAgg5, z5 := Tryz.sizeOf5, v5 := Tryz.zeroValue5, infoByte := by kernel_rfl, cellsByte := by kernel_rfl, sizeByte := by kernel_rfl, neB5 := by decide }
theorem Lst.new {w w' : World} {B : Nat} {v : Value} {l : List (List UInt8)} (h : Lst w B v l) (k : Below w.heap.size w w') : Lst w' B v l := row_tu h (.new (S := fun _ => False) k) (fun _ _ h => h)
theorem Lst.at {w : World} {B : Nat} {v : Value} {l : List (List UInt8)} (h : Lst w B v l) {k : Nat} (hk : k < l.length) : ∃ g cap, v = .slice (some ⟨g, 0, none⟩) l.length cap ∧ w.cell? ⟨g, 0 + k, none⟩ = some (.string (str (l[k]'hk))) := by
  rcases h.2 with ⟨rfl, h0⟩ | ⟨g, cap, cur, rfl, _⟩
  · omega
  · refine ⟨g, cap, rfl, ?_⟩
    have := World.ownsRow.cells (g := g) h rfl k (.string (str (l[k]'hk))) (by simp [hk])
    rw [show (⟨g, 0 + k, none⟩ : Addr) = (⟨g, 0, none⟩ : Addr).add k from by simp [Addr.add]]
    exact this
theorem Lst.sl {w : World} {B : Nat} {v : Value} {l : List (List UInt8)} (h : Lst w B v l) : ∃ ao cap, v = .slice ao l.length cap := by
  rcases h.2 with ⟨rfl, h0⟩ | ⟨g, cap, cur, rfl, _⟩
  · rw [h0]; exact ⟨_, _, rfl⟩
  · exact ⟨_, _, rfl⟩
theorem join_c (sep : List UInt8) (w : World) {B : Nat} {v : Value} {l : List (List UInt8)} (h : Lst w B v l) (hN : l.length ≤ 1000000) (hlen : (Lib.join l sep).length ≤ 140737488355328) :
    Calls Tryz.prog 203 #[v, .string (str sep)] w fun R w' => R = .returned (.string (str (Lib.join l sep))) ∧ Below w.heap.size w w' := by
  rcases h.2 with ⟨rfl, h0⟩ | ⟨g, cap, cur, rfl, hg, hh, hcl⟩
  · obtain rfl : l = [] := List.eq_nil_of_length_eq_zero h0
    refine (Any.strings_Join_none Tryz.joinA exJ none 0 (str sep) w).mono ?_
    rintro R w' ⟨rfl, rfl⟩
    exact ⟨rfl, Below.refl _ _⟩
  · have hcell : ∀ (j : Nat) x, (l.map str)[j]? = some x → w.cell? ⟨g, 0 + j, none⟩ = some (.string x) := fun j x hx => by
      have := World.ownsRow.cells (g := g) h rfl j (.string x) (by
        rw [List.getElem?_map] at hx ⊢
        cases hj : l[j]? with
        | none => rw [hj] at hx; cases hx
        | some y => rw [hj] at hx; cases hx; rfl)
      rw [show (⟨g, 0 + j, none⟩ : Addr) = (⟨g, 0, none⟩ : Addr).add j from by simp [Addr.add]]
      exact this
    have hm : (l.map str).map (·.data.toList) = l := by rw [List.map_map]; exact (List.map_congr_left (fun x _ => str_data x)).trans (List.map_id l)
    have hc : l.length ≤ cap := by
      have := hcl
      simp only [Nat.mul_one] at this
      omega
    have hj := Any.strings_Join Tryz.joinA exJ g 0 cap (l.map str) (str sep) w hcell (Array.getElem?_eq_some_iff.1 hh).1 (by rw [List.length_map]; omega) (by rw [List.length_map]; exact hc) (by rw [hm, str_data]; exact hlen)
    rw [hm, str_data, List.length_map] at hj
    exact hj
/-! What a crash leaves. -/
end Go.Proofs.YtgeaacabpnepmaaGreatDoor
