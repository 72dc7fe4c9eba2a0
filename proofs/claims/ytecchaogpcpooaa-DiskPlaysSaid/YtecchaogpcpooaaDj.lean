/- Copy. -/
import Derived.Test.YtecchaogpcpooaaDi
import Derived.Test.YtecchaogpcpooaaDt
namespace Go.Proofs.Ytecchaogpcpooaa
open Go.RowKit Go.Shelf Go.Maps Go.Sort
set_option linter.unusedVariables false
set_option linter.unusedSimpArgs false
set_option maxRecDepth 100000
attribute [local go_sem] Oper.semAt_some

theorem eql_sl_none (w : World) : (binOp .eql 56 (.slice none 0 0) (.slice none 0 0)).run Try.prog w = .ok (.bool true) w := by kernel_rfl
theorem eql_sl_some (g n c : Nat) (w : World) : (binOp .eql 56 (.slice (some ⟨g, 0, none⟩) n c) (.slice none 0 0)).run Try.prog w = .ok (.bool false) w := by kernel_rfl
attribute [local go_sem] eql_sl_none eql_sl_some
theorem clone_bytes {w : World} {ao : Option Addr} {n cap : Nat} {bs : List UInt8} (h : w.ownsRow 0 5 1 (.slice ao n cap) n (bvs bs)) (hn : n ≤ 65536) :
    Calls Try.prog 45 #[.slice ao n cap] w fun R w' => ∃ ao' cap', R = .returned (.slice ao' n cap') ∧ w'.ownsRow w.heap.size 5 1 (.slice ao' n cap') n (bvs bs) ∧ Below w.heap.size w w' := by
  obtain ⟨i0, hi, hz0, hz1, hz2⟩ := info_parts info_by
  rcases h.2 with ⟨he, h0⟩ | ⟨g, cap2, cur, he, hb, hg, hnc, hcm, hcs, htk⟩
  · injection he with e1 e2 e3
    subst e1 e3
    subst h0
    have hbs : bvs bs = [] := List.eq_nil_of_length_eq_zero (by have := h.1; omega)
    rw [hbs]
    clear h hi hz0 hz1 hz2 hbs
    go_enter Try.func45, Try.ntmps45
    go_wp2
    go_ret
    exact ⟨none, 0, rfl, World.ownsRow_nil _ _ _ _, Below.refl _ _⟩
  · injection he with e1 e2 e3
    subst e1 e3
    have hal : w.grownBy (w.alloc (.cells #[] 5)) none := World.grownBy_alloc _ _ _
    have hown := World.ownsRow_made (e := 5) (size := 1) w #[] 0 (Nat.le_refl _) (by decide) rfl
    have hrun := run_append_own_at (P := Try.prog) (w.alloc (.cells #[] 5)) w.heap.size 56 56 5 i0 (.int .u8 0) 1 1 Try.underlying56 hi hz0 hz1 hz2 rfl (by decide) _ 0 [] hown ⟨g, 0, none⟩ n cap (bvs bs) (by have := h.1; omega)
      (fun j u hu => by
        have h1 := h.cells (g := g) rfl j u hu
        exact hal.cell h1 (by simp)) (fun u hu => by
        simp only [bvs, List.mem_map] at hu
        obtain ⟨x, _, rfl⟩ := hu
        rfl) (by unfold maxLen; omega) (by omega) (by simp)
    obtain ⟨v', w', hr, ho, hgr, _, _⟩ := hrun
    obtain ⟨ao', cap', rfl, _⟩ := row_form ho
    simp only [Nat.zero_add, List.nil_append] at hr ho
    have HO := Lib.hid ho
    have HG := Lib.hid hgr
    have HR := Lib.hid hr
    clear h hi hz0 hz1 hz2 hal hown hb hg hnc hcm hcs htk ho hgr hr
    go_enter Try.func45, Try.ntmps45
    go_wp2_with (first | (at_builtin; refine wpList_app rfl _ _ _ _ rfl _ _ _ rfl rfl HR.out ?_) | go_in)
    go_ret
    exact ⟨ao', cap', rfl, HO.out, (below_alloc w _).trans (grown_nb HG.out (fun k e => by cases e; exact Nat.le_refl _) (by simp))⟩
theorem Dj.own {w w' : World} {gd m q B : Nat} {fs : List Fil} {row : Option Nat} (h : Dj w gd m q fs) (hm : m < B) (hg : w.grownBy w' row) (hr : ∀ r, row = some r → B ≤ r ∧ ∃ o : Obj, w.heap[r]? = some o ∧ o.isCells = false) : Dj w' gd m q fs := by
  refine h.tu (Tu.grown hg) fun x hx e => ?_
  obtain ⟨hB, o, ho, hc⟩ := hr x e.symm
  have notc : ∀ {t : TypeId} {cs : Array Value}, Cells w x t cs → False := fun hcs => by
    unfold Cells at hcs
    rw [ho] at hcs
    cases hcs
    cases hc
  rcases hx with rfl | rfl | ⟨f, hf, hx⟩
  · exact notc h.blk
  · omega
  · rcases hx with rfl | hx
    · exact notc (h.fil f hf).blk
    · obtain ⟨cs, h1, _⟩ := row_cells (h.fil f hf).row hx
      exact notc h1
def CpI (b bc gc mc : Nat) (w : World) (q : Nat) (fs : List Fil) (pre : List (Itm fs)) (W : World) : Prop :=
  ∃ fc, Dj W gc mc q fc ∧ (∀ e ∈ fc.map Fil.ent, e ∈ fs.map Fil.ent) ∧ Srt Fil.nm fc ∧ fc.length ≤ pre.length ∧ (pre.map Subtype.val <+: fs → fc.map Fil.ent = (pre.map Subtype.val).map Fil.ent) ∧
    Boxed W bc 23 (.pointer (some ⟨gc, 0, none⟩)) ∧ (∀ x, Foot gc mc fc x → b ≤ x) ∧ Below b w W
theorem cpI_own (b bc gc mc : Nat) (w : World) (q : Nat) (fs : List Fil) {B : Nat} (hm : mc < B) (hb : b ≤ w.heap.size) (hB : b ≤ B) : OwnFrom B (CpI b bc gc mc w q fs) := fun s A C row hs hg hr => by
  obtain ⟨fc, h1, h2, h3, h4, h5, h6, h7, h8⟩ := hs
  exact ⟨fc, h1.own hm hg hr, h2, h3, h4, h5, boxed_keep h6 hg (fun r e => (hr r e).2), h7, h8.grown hg (Nat.le_trans hb h8.size) (fun k e => Nat.le_trans hB (hr k e).1)⟩
/-- A file more in a list that is sorted: one that comes behind all. -/
theorem ins_last {fc : List Fil} {l : List Fil} {x : Fil} {f : Fil} (hs : Srt Fil.nm fc) (hx : Srt Fil.nm (l ++ [x])) (hl : fc.map Fil.ent = l.map Fil.ent) (hf : f.ent = x.ent) :
    (insK Fil.nm f (delK Fil.nm f.nm fc)).map Fil.ent = (l ++ [x]).map Fil.ent := by
  have hn : f.nm = x.nm := congrArg Ent.nm hf
  have hlt : ∀ y ∈ fc, y.nm < f.nm := fun y hy => by
    have : y.ent ∈ l.map Fil.ent := by rw [← hl]; exact List.mem_map_of_mem hy
    obtain ⟨z, hz, he⟩ := List.mem_map.1 this
    have h1 := (List.pairwise_append.1 hx).2.2 z hz x (by simp)
    rw [hn, ← show z.nm = y.nm from congrArg Ent.nm he]
    exact h1
  have hd : delK Fil.nm f.nm fc = fc := List.filter_eq_self.2 fun y hy => by
    have := nm_lt_ne (hlt y hy)
    simpa using this
  have hi := insK_at (k := Fil.nm) f fc [] hlt (by simp)
  rw [List.append_nil] at hi
  rw [hd, hi, List.map_append, List.map_append, hl]
  simp [hf]
theorem cp_done {b bc gd m gc mc q : Nat} {w1 W wd w2 w3 : World} {fs fc : List Fil} {pre : List (Itm fs)} {x : Itm fs} {ao' : Option Addr} {cap' : Nat} (hb1 : b ≤ bc) (hb2 : bc + 2 = w1.heap.size) (hgd : gd < b) (hm : m < b) (hmc : b ≤ mc) (hmc2 : mc < bc) (hfsrt : Srt Fil.nm fs)
    (hj : Dj W gc mc q fc) (hsub : ∀ e ∈ fc.map Fil.ent, e ∈ fs.map Fil.ent) (hsrt : Srt Fil.nm fc) (hfl : fc.length ≤ pre.length) (hex : pre.map Subtype.val <+: fs → fc.map Fil.ent = (pre.map Subtype.val).map Fil.ent)
    (hbc : Boxed W bc 23 (.pointer (some ⟨gc, 0, none⟩))) (hfoot : ∀ y, Foot gc mc fc y → b ≤ y) (hbl : Below b w1 W)
    (hs0 : Below W.heap.size W wd) (hrow : w2.ownsRow wd.heap.size 5 1 (.slice ao' x.1.bs.length cap') x.1.bs.length (bvs x.1.bs)) (hb2' : Below wd.heap.size wd w2)
    (hm3 : w3.ownsMap Try.prog 9 Rf mc (insK Fil.nm ⟨x.1.nm, w2.heap.size, ao', cap', x.1.bs, x.1.su⟩ (delK Fil.nm x.1.nm fc)).length (dmap (insK Fil.nm ⟨x.1.nm, w2.heap.size, ao', cap', x.1.bs, x.1.su⟩ (delK Fil.nm x.1.nm fc))))
    (ht3 : Tu (fun y => y = mc) (w2.alloc (.cells #[.slice ao' x.1.bs.length cap', .int .i64 x.1.su] 76)) w3) (B : Nat) (hB : B = bc + 2) :
    KeepsFrom B W w3 ∧ Kq gd m (bc + 1) B bc W w3 ∧ CpI b bc gc mc w1 q fs (pre ++ [x]) w3 := by
  have hszW := hbl.size
  have ha := below_alloc w2 (.cells #[.slice ao' x.1.bs.length cap', .int .i64 x.1.su] 76)
  have h2 : Below W.heap.size W w2 := hs0.trans (hb2'.mono hs0.size)
  have h3 : Below W.heap.size W (w2.alloc (.cells #[.slice ao' x.1.bs.length cap', .int .i64 x.1.su] 76)) := h2.trans (ha.mono h2.size)
  have hT : Tu (fun y => y = mc) W w3 := (Tu.new (S := fun y => y = mc) h3).trans ht3 (fun _ _ e => e)
  have hbc3 : Cells w3 bc 23 #[.pointer (some ⟨gc, 0, none⟩)] := Cells.tu (t := 23) hbc hT (by omega)
  have hfile := Cells.made w2 76 #[.slice ao' x.1.bs.length cap', .int .i64 x.1.su]
  have hml := hj.map.lt
  have h2s := h2.size
  have hsd := hs0.size
  have hf3 : FilAt w3 ⟨x.1.nm, w2.heap.size, ao', cap', x.1.bs, x.1.su⟩ := by
    refine ⟨hfile.tu ht3 (by omega), row_tu (ownsRow_base_a (hrow.alloc _) (Nat.zero_le _)) ht3 fun y hy e => ?_⟩
    have := (hrow.lt y hy).1
    omega
  have hinn : ∀ y, Fil.inn ⟨x.1.nm, w2.heap.size, ao', cap', x.1.bs, x.1.su⟩ y → W.heap.size ≤ y := by
    rintro y (e | e)
    · have : y = w2.heap.size := e
      omega
    · have := (hrow.lt y e).1
      omega
  have hj3 := hj.new h3
  have hput := hj3.put (f := ⟨x.1.nm, w2.heap.size, ao', cap', x.1.bs, x.1.su⟩) ht3 hm3 hf3 (fun y hy _ z hz hyz => by
    have h1 := hinn z hz
    have h2 := (hj.fil y hy).lt hyz
    omega)
  refine ⟨⟨hT.size, fun k o hk ho _ => ?_⟩, ?_, ?_⟩
  · exact (hT.block k (Array.getElem?_eq_some_iff.1 ho).1 (by omega)).trans ho
  · refine Kq.of_tu hT (by omega) (by omega) (by omega) (by omega) (by omega) (by omega) (fun y t cs hy => ⟨by have := hy.1; omega, fun a n c e => ?_⟩)
    rw [hbc3.cell] at e
    cases e
  · have hent : ∀ e ∈ (insK Fil.nm ⟨x.1.nm, w2.heap.size, ao', cap', x.1.bs, x.1.su⟩ (delK Fil.nm x.1.nm fc)).map Fil.ent, e ∈ fs.map Fil.ent := by
      intro e he
      obtain ⟨y, hy, rfl⟩ := List.mem_map.1 he
      rcases insK_mem.1 hy with rfl | hy
      · have h9 : x.1.ent ∈ fs.map Fil.ent := List.mem_map_of_mem (f := Fil.ent) x.2
        exact h9
      · exact hsub _ (List.mem_map_of_mem (delK_mem.1 hy).1)
    refine ⟨_, hput, hent, insK_srt _ _ (delK_srt _ hsrt) (fun y hy => (delK_mem.1 hy).2), ?_, fun hp => ?_, hbc3, ?_, ?_⟩
    · rw [insK_len, List.length_append]
      have : (delK Fil.nm x.1.nm fc).length ≤ fc.length := List.length_filter_le _ _
      simp only [List.length_cons, List.length_nil]
      omega
    · rw [List.map_append] at hp ⊢
      have hpre : pre.map Subtype.val <+: fs := (List.prefix_append _ _).trans hp
      exact ins_last hsrt (hfsrt.sublist hp.sublist) (hex hpre) rfl
    · rintro y (e | e | ⟨f, hf, hy⟩)
      · exact hfoot y (.inl e)
      · exact hfoot y (.inr (.inl e))
      · rcases insK_mem.1 hf with rfl | hf
        · have := hinn y hy
          omega
        · exact hfoot y (.inr (.inr ⟨f, (delK_mem.1 hf).1, hy⟩))
    · exact hbl.trans (hT.below (fun y hy => by omega) (by omega))
set_option maxHeartbeats 2000000 in
theorem copy_c {S : Nat → Prop} {v : Value} {q : Nat} {E : List Ent} (w : World) (h : DkS S w v q E) :
    Calls Try.prog 14 #[v] w fun R w' => ∃ v', R = .returned v' ∧ DkS (fun x => w.heap.size ≤ x) w' v' q E ∧ Below w.heap.size w w' := by
  obtain ⟨gd, m, fs, rfl, hd, rfl, hF⟩ := h
  obtain ⟨hlen, hnl, hmost, hsure, hnms⟩ := hd.names
  have HD := Lib.hid hd
  have hck := check_none w hd
  have c0 : w.cell? ⟨gd, 0, none⟩ = some (.int .i64 q) := by rw [hd.blk.cell]; rfl
  have hq1 := hd.good.q1
  have hq2 := hd.good.q2
  have HNEW := Lib.hid (new_c (q : Int) w)
  have HM := Lib.hid hmost
  have HSU := Lib.hid hsure
  clear hd hmost hsure
  refine (callsIn_wide (n := 12)).1 ?_
  refine callsIn_of_wp_marks Try.func14 rfl trivial ?_ rfl
  simp only [Try.ntmps14, List.size_toArray, List.length_cons, List.length_nil, Nat.reduceAdd, Nat.reduceSub, Array.replicate_succ, Array.replicate_zero, List.push_toArray, List.append_toArray, List.nil_append, List.cons_append]
  gi_wp2
  refine ⟨trivial, (callsIn_wide.2 hck).mono ?_⟩
  rintro E w0 ⟨rfl, rfl⟩
  gi_wp2
  refine ⟨trivial, (callsIn_wide.2 HNEW.out).mono ?_⟩
  rintro E wn hnew
  obtain ⟨hbn, ⟨_, _, v', rfl, gc, mc, fn, rfl, hdn, hen, hFn⟩ | ⟨hbad, _⟩⟩ := hnew
  rotate_left
  · omega
  obtain rfl : fn = [] := List.map_eq_nil_iff.1 hen
  gi_wp2
  refine ⟨trivial, (callsIn_wide.2 (inOrder_c _ _)).mono ?_⟩
  rintro E w1 ⟨rfl, hw1⟩
  gi_wp2
  have hsz1 : w1.heap.size = wn.heap.size + 2 := by rw [← hw1]; simp
  have hszn := hbn.size
  have hB1 : Below wn.heap.size wn w1 := by
    rw [← hw1]; exact ((below_alloc wn _).trans ((below_alloc _ _).mono (by simp)))
  have hbx : Boxed w1 wn.heap.size 23 (.pointer (some ⟨gc, 0, none⟩)) := by
    rw [← hw1]
    exact (Boxed.new wn 23 (.pointer (some ⟨gc, 0, none⟩))).alloc _
  have hcb : Cells w1 (wn.heap.size + 1) 23 #[.pointer (some ⟨gd, 0, none⟩)] := by
    rw [← hw1]
    have := Cells.made (wn.alloc (.cells #[.pointer (some ⟨gc, 0, none⟩)] 23)) 23 #[.pointer (some ⟨gd, 0, none⟩)]
    simpa using this
  have hbw : Below w.heap.size w w1 := hbn.trans (hB1.mono hszn)
  have hd1 : Dk w1 gd m q fs := HD.out.new hbw
  have hdc1 : Dj w1 gc mc q [] := by
    have := hdn.toDj.new hB1
    simpa using this
  have hgl := HD.out.blk.lt
  have hml := HD.out.map.lt
  have hgc := hFn gc (.inl rfl)
  have hmc := hFn mc (.inr (.inl rfl))
  have hgcl := hdn.blk.lt
  have hmcl := hdn.map.lt
  have hcx := hbx.cell
  have HFS := Lib.hid HD.out.srt
  clear hw1 hdn
  refine wpIn_rangeFunc_ownG rfl (by omega) (gf := 61) (lb := #[.pointer (some ⟨wn.heap.size + 1, 0, none⟩)]) rfl trivial (enters_of Try.func61 (by kernel_rfl) rfl)
    (inOrder_stops (12 - 1) (by omega) gd m q (wn.heap.size + 1) w1.heap.size wn.heap.size fs hd1.srt (by omega) (fun f hf => Nat.le_trans (hnl f hf) (by decide)) w1 (Nat.le_refl _) (by omega) (fun a n c e => by rw [hcx] at e; cases e) hd1.dn hcb)
    Kq.trans (Kq.put (by omega) (by omega) (by omega) (by omega)) (Below.refl _ _) (fun _ => rfl)
    (CpI w.heap.size wn.heap.size gc mc w1 q fs) (NoX fs) (cpI_own _ _ _ _ w1 q fs (by omega) (by omega) (by omega)) (fun c => noX_own fs _ c)
    ⟨[], hdc1, by simp, List.Pairwise.nil, Nat.le_refl _, fun _ => rfl, hbx, fun x hx => hFn x hx, Below.refl _ _⟩
    (fun x => { tmps := #[.pointer (some ⟨gd, 0, none⟩), undef, .pointer none, .pointer (some ⟨wn.heap.size, 0, none⟩), .string (str x.1.nm), .pointer (some ⟨x.1.g, 0, none⟩), .pointer (some ⟨gd, 0, none⟩), .int .i64 0, .bool false, .pointer (some ⟨gd, 0, none⟩), .pointer (some ⟨gd, 0, none⟩), .pointer (some ⟨gd, 0, none⟩), .int .i64 q, .pointer (some ⟨gc, 0, none⟩), .pointer (some ⟨gd, 0, none⟩), .func (.func 61) #[] #[.pointer (some ⟨wn.heap.size + 1, 0, none⟩)], .string (str x.1.nm), .pointer (some ⟨x.1.g, 0, none⟩), undef, undef, undef, undef, undef, undef, undef, undef, undef, undef, undef, undef, undef, undef, undef], defers := [] }) ?assign ?body ?done ?stop
  case assign =>
    intro l x W K hK
    gi_wp2
    exact hK
  case body =>
    rintro l pre x W ⟨fc, hj, hsub, hsrt, hfl, hex, hbc, hfoot, hbl⟩ hlt
    have hlt' : pre.length < fs.length := hlt
    have hszW := hbl.size
    have hff := (HD.out.new (hbw.trans hbl)).fil x.1 x.2
    have hm1 := HM.out x.1 x.2
    have hs1 := HSU.out x.1 x.2
    have hn1 := hnl x.1 x.2
    have lc : ∀ W', Below W.heap.size W W' → W'.cell? ⟨wn.heap.size, 0, none⟩ = some (.pointer (some ⟨gc, 0, none⟩)) := fun W' hW => by
      have : Cells W' wn.heap.size 23 #[.pointer (some ⟨gc, 0, none⟩)] := Cells.below (t := 23) hbc hW (by omega)
      rw [this.cell]; rfl
    have l0 : ∀ W', Below W.heap.size W W' → W'.cell? ⟨x.1.g, 0, none⟩ = some (.slice x.1.ao x.1.bs.length x.1.cap) := fun W' hW => by rw [(hff.blk.below hW hff.blk.lt).cell]; rfl
    have l1 : ∀ W', Below W.heap.size W W' → W'.cell? ⟨x.1.g, 1, none⟩ = some (.int .i64 x.1.su) := fun W' hW => by rw [(hff.blk.below hW hff.blk.lt).cell]; rfl
    have CL : Hid (∀ W', Below W.heap.size W W' → Calls Try.prog 45 #[.slice x.1.ao x.1.bs.length x.1.cap] W' fun R w' => ∃ ao' cap', R = .returned (.slice ao' x.1.bs.length cap') ∧ w'.ownsRow W'.heap.size 5 1 (.slice ao' x.1.bs.length cap') x.1.bs.length (bvs x.1.bs) ∧ Below W'.heap.size W' w') := fun W' hW =>
      clone_bytes (row_tu hff.row (S := fun _ => False) (.new hW) (fun _ _ h => h)) hm1
    have PU : Hid (∀ w2, Below W.heap.size W w2 → ∀ ao' cap', Calls Try.prog 44 #[.pointer (some ⟨gc, 0, none⟩), .string (str x.1.nm), .pointer (some ⟨w2.heap.size, 0, none⟩)] (w2.alloc (.cells #[.slice ao' x.1.bs.length cap', .int .i64 x.1.su] 76)) fun R w' => R = .returned (.tuple #[]) ∧
        w'.ownsMap Try.prog 9 Rf mc (insK Fil.nm ⟨x.1.nm, w2.heap.size, ao', cap', x.1.bs, x.1.su⟩ (delK Fil.nm x.1.nm fc)).length (dmap (insK Fil.nm ⟨x.1.nm, w2.heap.size, ao', cap', x.1.bs, x.1.su⟩ (delK Fil.nm x.1.nm fc))) ∧ Tu (fun y => y = mc) (w2.alloc (.cells #[.slice ao' x.1.bs.length cap', .int .i64 x.1.su] 76)) w') := fun w2 h2 ao' cap' => by
      have hj2 := (hj.new h2).new (below_alloc w2 (.cells #[.slice ao' x.1.bs.length cap', .int .i64 x.1.su] 76))
      exact put_c ⟨x.1.nm, w2.heap.size, ao', cap', x.1.bs, x.1.su⟩ (.int .i64 q) _ hj2.blk hj2.map (by unfold maxLen; omega) (by simp only; omega)
    have hmx : Try.prog.follows .mixedOrders = true := by kernel_rfl
    have hb0 : Below W.heap.size W W.drew := (Below.refl _ W).drew
    have hbr : Below W.heap.size W W := Below.refl _ W
    have HJ := Lib.hid hj
    have HX := Lib.hid hex
    have HBC := Lib.hid hbc
    have HBL := Lib.hid hbl
    have HSB := Lib.hid hsub
    have HSR := Lib.hid hsrt
    have HFT := Lib.hid hfoot
    clear hj hex hbc hbl hff hm1 hs1 hn1 hlt hlt' hsub hsrt hfoot
    gi_wp2
    have hs0 := hb0
    obtain ⟨wd, hwd⟩ : ∃ wd, W.drew = wd := ⟨_, rfl⟩
    refine wpIn_region_till (S := fun w' => Below W.heap.size W w') hmx (by kernel_rfl) (fun ⟨_, _, h⟩ => h) ?_
    rw [hwd] at hs0 ⊢
    clear hwd hb0
    refine wpTill_take (i := 0) (v := ?va0) rfl (by kernel_rfl) (fun _ _ _ h => h) (Or.inl ⟨by rfl, ?hya0⟩) hs0 ?resta0
    case hya0 => (intro W' hW; (try dsimp only at hW); go_simp; try with_reducible rfl)
    simp only [Act.put, List.setIfInBounds_toArray, List.set_cons_zero, List.set_cons_succ]
    refine wpTill_take (i := 1) (v := ?va1) rfl (by kernel_rfl) (fun _ _ _ h => h) (Or.inl ⟨by rfl, ?hya1⟩) hs0 ?resta1
    case hya1 => (intro W' hW; (try dsimp only at hW); go_simp; try with_reducible rfl)
    simp only [Act.put, List.setIfInBounds_toArray, List.set_cons_zero, List.set_cons_succ]
    refine wpTill_take (i := 2) (v := ?va2) rfl (by kernel_rfl) (fun _ _ _ h => h) (Or.inl ⟨by rfl, ?hya2⟩) hs0 ?resta2
    case hya2 => (intro W' hW; (try dsimp only at hW); go_simp; try with_reducible rfl)
    simp only [Act.put, List.setIfInBounds_toArray, List.set_cons_zero, List.set_cons_succ]
    refine wpTill_take (i := 3) (v := ?va3) rfl (by kernel_rfl) (fun _ _ _ h => h) (Or.inl ⟨by rfl, ?hya3⟩) hs0 ?resta3
    case hya3 => (intro W' hW; (try dsimp only at hW); go_simp; try with_reducible rfl)
    simp only [Act.put, List.setIfInBounds_toArray, List.set_cons_zero, List.set_cons_succ]
    refine wpTill_take (i := 4) (v := ?va4) rfl (by kernel_rfl) (fun _ _ _ h => h) (Or.inl ⟨by rfl, ?hya4⟩) hs0 ?resta4
    case hya4 => (intro W' hW; (try dsimp only at hW); go_simp; try with_reducible rfl)
    simp only [Act.put, List.setIfInBounds_toArray, List.set_cons_zero, List.set_cons_succ]
    refine wpTill_take (i := 5) (v := ?va5) rfl (by kernel_rfl) (fun _ _ _ h => h) (Or.inl ⟨by rfl, ?hya5⟩) hs0 ?resta5
    case hya5 => (intro W' hW; (try dsimp only at hW); go_simp; try with_reducible rfl)
    simp only [Act.put, List.setIfInBounds_toArray, List.set_cons_zero, List.set_cons_succ]
    refine wpTill_take (i := 7) (v := ?va7) rfl (by kernel_rfl) (fun _ _ _ h => h) (Or.inl ⟨by rfl, ?hya7⟩) hs0 ?resta7
    case hya7 => (intro W' hW; (try dsimp only at hW); go_simp; try with_reducible rfl)
    simp only [Act.put, List.setIfInBounds_toArray, List.set_cons_zero, List.set_cons_succ]
    refine wpTill_take (i := 8) (v := ?va8) rfl (by kernel_rfl) (fun _ _ _ h => h) (Or.inl ⟨by rfl, ?hya8⟩) hs0 ?resta8
    case hya8 => (intro W' hW; (try dsimp only at hW); go_simp; try with_reducible rfl)
    simp only [Act.put, List.setIfInBounds_toArray, List.set_cons_zero, List.set_cons_succ]
    refine wpTill_take (i := 9) (v := ?va9) rfl (by kernel_rfl) (fun _ _ _ h => h) (Or.inl ⟨by rfl, ?hya9⟩) hs0 ?resta9
    case hya9 => (intro W' hW; (try dsimp only at hW); go_simp; try with_reducible rfl)
    simp only [Act.put, List.setIfInBounds_toArray, List.set_cons_zero, List.set_cons_succ]
    refine wpTill_take (i := 10) (v := ?va10) rfl (by kernel_rfl) (fun _ _ _ h => h) (Or.inl ⟨by rfl, ?hya10⟩) hs0 ?resta10
    case hya10 => (intro W' hW; (try dsimp only at hW); go_simp; try with_reducible rfl)
    simp only [Act.put, List.setIfInBounds_toArray, List.set_cons_zero, List.set_cons_succ]
    refine wpTill_run (i := 6) (by kernel_rfl) rfl hs0 (fun K hK => ?_)
    go_simp
    go_at_call 45
    refine (CL.out wd hs0).mono ?_
    rintro E w2 ⟨ao', cap', rfl, hrow, hb2⟩
    have hs2 := hs0.trans (hb2.mono hs0.size)
    have HROW := Lib.hid hrow
    have HB2 := Lib.hid hb2
    have HS0 := Lib.hid hs0
    refine hK _ _ ?_
    clear hK K hrow hb2 hs0
    refine wpTill_take (i := 11) (v := ?vb11) rfl (by kernel_rfl) (fun _ _ _ h => h) (Or.inl ⟨by rfl, ?hyb11⟩) hs2 ?restb11
    case hyb11 => (intro W' hW; (try dsimp only at hW); go_simp; try with_reducible rfl)
    simp only [Act.put, List.setIfInBounds_toArray, List.set_cons_zero, List.set_cons_succ]
    refine wpTill_run (i := 12) (by kernel_rfl) rfl hs2 (fun K hK => ?_)
    go_simp
    refine hK _ _ ?_
    clear hK K
    have hs3 := hs2.trans ((below_alloc w2 (.cells #[.slice ao' x.1.bs.length cap', .int .i64 x.1.su] 76)).mono hs2.size)
    refine wpTill_run (i := 13) (by kernel_rfl) rfl hs3 (fun K hK => ?_)
    go_simp
    go_at_call 44
    refine (PU.out w2 hs2 ao' cap').mono ?_
    rintro E w3 ⟨rfl, hm3, ht3⟩
    refine hK _ _ ?_
    clear hK K
    refine wpTill_done (by kernel_rfl) ?_
    have HM3 := Lib.hid hm3
    have HT3 := Lib.hid ht3
    clear hm3 ht3 lc l0 l1
    gi_wp2
    exact cp_done (by omega) (by omega) hgl hml hmc hmcl HFS.out HJ.out HSB.out HSR.out hfl HX.out HBC.out HFT.out HBL.out HS0.out HROW.out HB2.out HM3.out HT3.out _ (by omega)
  case done =>
    rintro D xs W hD hxs ⟨fc, hj, hsub, hsrt, hfl, hex, hbc, hfoot, hbl⟩ hK
    have hE := hex (by rw [hxs]; exact List.prefix_refl _)
    rw [hxs] at hE
    have hrow : ∀ r, some D = some r → w1.heap.size ≤ r ∧ ∃ o : Obj, W.heap[r]? = some o ∧ o.isCells = false := fun r e => by cases e; exact ⟨hD, _, hK, rfl⟩
    have hgp := grownBy_putObj' W D (.deferred none)
    have hj3 := hj.own (by omega) hgp hrow
    have hc := hbc.cell
    have HJ3 := Lib.hid hj3
    have HE := Lib.hid hE
    have HFT := Lib.hid hfoot
    have HBL := Lib.hid hbl
    clear hE hrow hgp hj3 hj hsub hsrt hex hbc hfoot hbl hxs
    gi_wp2
    refine ⟨by simp, .inl ⟨_, _, rfl, run_takeDeferred hK, ?_⟩⟩
    exact ⟨_, results_tmp rfl _ _ _, _, by rfl, ⟨gc, mc, fc, rfl, ⟨HJ3.out, by rw [HE.out]; exact HD.out.good⟩, HE.out, HFT.out⟩, (hbw.trans HBL.out).trans (belowK_b (w := w1) (by omega) _ D _ _ hD hK rfl rfl)⟩
  case stop =>
    rintro D c pre W hD hpre h hK
    exact h.elim
theorem copy_nil {v : Value} (w : World) (h : NilD w v) :
    Calls Try.prog 14 #[v] w fun R w' => R = .returned (.pointer none) ∧ Below w.heap.size w w' := by
  have hck := check_nil v (.slice none 0 0) w h
  refine (callsIn_wide (n := 12)).1 ?_
  refine callsIn_of_wp_marks Try.func14 rfl trivial ?_ rfl
  simp only [Try.ntmps14, List.size_toArray, List.length_cons, List.length_nil, Nat.reduceAdd, Nat.reduceSub, Array.replicate_succ, Array.replicate_zero, List.push_toArray, List.append_toArray, List.nil_append, List.cons_append]
  gi_wp2
  refine ⟨trivial, (callsIn_wide.2 hck).mono ?_⟩
  rintro E w0 ⟨rfl, rfl⟩
  gi_wp2
  exact ⟨_, results_tmp rfl _ _ _, by rfl, Below.refl _ _⟩
end Go.Proofs.Ytecchaogpcpooaa
