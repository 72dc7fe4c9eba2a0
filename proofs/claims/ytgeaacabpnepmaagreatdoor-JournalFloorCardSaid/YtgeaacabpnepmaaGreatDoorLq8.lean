/- Texts of the walk. -/
import Derived.Test.YtgeaacabpnepmaaGreatDoorLk8
/- An opening. -/
namespace Go.Proofs.YtgeaacabpnepmaaGreatDoor
open Go.RowKit
set_option linter.unusedVariables false
set_option linter.unusedSimpArgs false
set_option maxRecDepth 20000

section
variable {P : Program} {ops : Array Oper} {Q : Exit → Act → World → Prop} {md : Region.Mode} {S : World → Prop}
theorem wpTill_two' {i j n : Nat} {oi oj : Oper} {listed : Array Bool} {a : Act} {w : World} (hr : Region.ready md ops listed = [i, j]) (hi : ops[i]? = some oi) (hj : ops[j]? = some oj) (hS : S w)
    (h1 : ∀ K' : Act → World → Prop, (∀ a' w', wpTill P md ops Q S n (listed.setIfInBounds i true) a' w' → K' a' w') → if Region.wanted oi (yielded ops a.tmps) = true then Oper.wp P oi a w K' Q else K' (a.put oi.dst undef) w)
    (h2 : ∀ K' : Act → World → Prop, (∀ a' w', wpTill P md ops Q S n (listed.setIfInBounds j true) a' w' → K' a' w') → if Region.wanted oj (yielded ops a.tmps) = true then Oper.wp P oj a w K' Q else K' (a.put oj.dst undef) w) :
    wpTill P md ops Q S (n + 1) listed a w :=
  ⟨fun k => (by rw [hr] at k; cases k), fun _ => hS, fun l hl => by
    rw [hr] at hl
    rcases List.mem_cons.1 hl with rfl | hl
    · exact wpOp_step hi h1
    · rw [List.mem_singleton] at hl
      subst hl
      exact wpOp_step hj h2⟩
end
theorem Loc.more2 {B : Nat} {w0 w : World} {L : List (Nat × TypeId × Array Value)} (h : Loc B w0 w L) (t t' : TypeId) (cs cs' : Array Value) : Loc B w0 ((w.alloc (.cells cs t)).alloc (.cells cs' t')) (L ++ [(w.heap.size, t, cs), (w.heap.size + 1, t', cs')]) := by
  have := (h.more t cs).more t' cs'
  rwa [show (w.alloc (.cells cs t)).heap.size = w.heap.size + 1 by simp, List.append_assoc] at this
theorem shut_op {W : World} {g a b c n : Nat} {cs : Array Value} {T : TypeId} (tmps : Array Value) (v : Value) (e : Int) (fn : Func) (hr : fn.results = #[.tmp a, .cell b T, .tmp c]) (ty : TyA T n) (h : Cells W g T cs) (hs : cs.size = n) (h2 : tmps.getD a undef = v) (h3 : tmps.getD b undef = .pointer (some ⟨g, 0, none⟩)) (h4 : tmps.getD c undef = .int .i64 e) :
    (results fn tmps).run Tryz.prog W = .ok (.tuple #[v, .agg cs, .int .i64 e]) W := by
  have hl := run_ldA ty h 0 (by omega)
  have he : ((cs.toList.drop 0).take n).toArray = cs := by rw [← hs]; simp [List.take_of_length_le]
  rw [he] at hl
  have h2' : tmps[a]?.getD undef = v := by simpa using h2
  have h3' : tmps[b]?.getD undef = .pointer (some ⟨g, 0, none⟩) := by simpa using h3
  have h4' : tmps[c]?.getD undef = .int .i64 e := by simpa using h4
  have k1 : (loadVar T ⟨g, 0, none⟩).run Tryz.prog W = .ok (.agg cs) W := by simpa [ldT, Instr.loadAt, Instr.sureAddr] using hl
  simp [results, hr, h2', h3', h4', asAddr, k1]
theorem ty_found : TyA 49 6 := tya_struct Tryz.underlying49 (by kernel_rfl)
theorem ld_found (v : Value) : Instr.loadAt 49 v = ldT 49 v := rfl
theorem st_found (p v : Value) : Instr.storeAt 49 p v = stT 49 p v := rfl
theorem ld_tally (v : Value) : Instr.loadAt 67 v = ldT 67 v := rfl
def fz : Array Value := #[.int .u64 0, .bool false, .slice none 0 0, .int .u64 0, .slice none 0 0, .slice none 0 0]
def fcs (o : Op) (co : Option Addr) (cc : Nat) (po : Option Addr) (pc : Nat) (io : Option Addr) (ic : Nat) : Array Value :=
  #[.int .u64 (o.m.ep : Int), .bool o.f, .slice co o.m.ck.length cc, .int .u64 (o.x.fr : Int), .slice po o.x.ps.length pc, .slice io o.x.ah.length ic]
section
variable {V : Nat → Prop} {w w1 : World} {gp q kc gj : Nat} {dv : Value} {ko : Option Addr} {p : Pw} {j : Jn}
theorem PJ.jc (h : PJ V w gp q dv ko kc p) {ao : Option Addr} {ac : Nat} (hc : Cells w gj 69 (jcs gp j ao ac none 0 none 0)) (hf : JnF j) (hm : j.m = mz) (hi : InAt w ao j.ah) (hcap : j.ah.length ≤ ac ∧ ac ≤ maxLen) (hgj : ¬ V gj) (hao : ∀ a, ao = some a → j.ah ≠ [] → ¬ V a.block ∧ a.block ≠ gj) :
    ∃ S, JX (fun x => V x ∨ x = gj ∨ (j.ah ≠ [] ∧ ∃ a, ao = some a ∧ a.block = x)) w gj gp q dv ko kc p j S ao ac none 0 none 0 := by
  obtain ⟨S, h1, h2, h3, h4, h5⟩ := h
  have hs : ∀ x, jsl j ao none none x → j.ah ≠ [] ∧ ∃ a, ao = some a ∧ a.block = x := fun x hx => by
    rcases hx with hx | ⟨_, a, e, _⟩ | ⟨_, a, e, _⟩
    · exact hx
    · cases e
    · cases e
  have hnv : ∀ x, (x = gj ∨ jsl j ao none none x) → ¬ V x := fun x hx => by
    rcases hx with rfl | hx
    · exact hgj
    · obtain ⟨h0, a, e, rfl⟩ := hs x hx
      exact (hao a e h0).1
  refine ⟨S, ⟨h1, ⟨hc, hf, hi, by rw [hm]; exact mz_at _, hcap, by rw [hm]; exact ⟨Nat.le_refl _, Nat.zero_le _⟩, fun x hx => ⟨fun e => hnv x hx (e ▸ h2), fun hS => hnv x hx (h3 x hS)⟩, fun x hx => ?_⟩, .inl h2, fun x hx => .inl (h3 x hx), fun a e hn => ⟨.inl (h4 a e hn), fun x hx e2 => hnv x hx (e2 ▸ h4 a e hn)⟩, fun x hx => ?_, fun x hx => ?_⟩⟩
  · obtain ⟨h0, a, e, rfl⟩ := hs x hx
    exact (hao a e h0).2
  · rcases hx with rfl | hx
    · exact .inr (.inl rfl)
    · exact .inr (.inr (hs x hx))
  · rcases hx with hx | rfl | ⟨h0, a, e, rfl⟩
    · exact h5 x hx
    · exact hc.lt
    · exact hi.lt h0 a e
theorem fd_of (q pl : Nat) (p : Pw) (h : (fdR q pl p).e = 0) : (fdR q pl p).m = jlM p pl ∧ (fdR q pl p).x = (cnRd (fdR q pl p).p true cn0 true (jlM p pl).sg).2 := by
  unfold fdR at h ⊢
  split at h <;> rename_i h1
  · rw [if_pos h1]
    split at h <;> rename_i h2
    · rw [if_pos h2]
      split at h <;> rename_i h3
      · rw [if_pos h3]; exact ⟨rfl, rfl⟩
      · exact absurd (by simpa using h) h3
    · exact absurd (by simpa using h) h2
  · exact absurd h h1
theorem fd_n (q pl : Nat) (p : Pw) : (fdR q pl p).p.n ≤ p.n + p.names.length := by
  have h := (clr_says q (jfs (jlM p pl)) p.names p).2.2
  unfold fdR
  (repeat' split) <;> first | exact h | exact Nat.le_add_right _ _
def OpnPost (V : Nat → Prop) (w : World) (gp q : Nat) (dv : Value) (ko : Option Addr) (kc rows : Nat) (o : Op) (R : Ending) (w' : World) : Prop :=
  (o.e ≠ 0 ∧ R = .returned (.tuple #[.pointer none, .agg fz, .int .i64 o.e]) ∧ ∃ V', PJ V' w' gp q dv ko kc o.p ∧ JTo V w V' w') ∨
  (o.e = 0 ∧ ∃ gj co cc po pc io ic V', R = .returned (.tuple #[.pointer (some ⟨gj, 0, none⟩), .agg (fcs o co cc po pc io ic), .int .i64 0]) ∧ JC V' w' gj gp q dv ko kc o.p (opJ rows o) ∧ JTo V w V' w' ∧ NsAt w' co o.m.ck ∧ PrAt w' po o.x.ps ∧ InAt w' io o.x.ah ∧
    (o.m.ck.length ≤ cc ∧ cc ≤ maxLen) ∧ (o.x.ps.length ≤ pc ∧ pc ≤ maxLen) ∧ (o.x.ah.length ≤ ic ∧ ic ≤ maxLen) ∧ (∀ a, co = some a → o.m.ck ≠ [] → w.heap.size ≤ a.block ∧ ¬ V' a.block) ∧ (∀ a, po = some a → o.x.ps ≠ [] → w.heap.size ≤ a.block ∧ ¬ V' a.block) ∧ (∀ a, io = some a → o.x.ah ≠ [] → w.heap.size ≤ a.block ∧ ¬ V' a.block) ∧ CnOk o.x)
attribute [local go_sem ↓] ld_pw ld_man st_man ld_jcont st_jcont ld_found st_found ld_tally ld_u64 st_u64 ld_nums' ld_prs ld_inps
end
end Go.Proofs.YtgeaacabpnepmaaGreatDoor
/- The journal's ahead lies where it lay: holding, swapping, beginning, once more. -/
namespace Go.Proofs.YtgeaacabpnepmaaGreatDoor
open Go.RowKit
set_option linter.unusedVariables false
set_option linter.unusedSimpArgs false
set_option maxRecDepth 20000

def JCb (V : Nat → Prop) (w : World) (gj gp q : Nat) (dv : Value) (ko : Option Addr) (kc : Nat) (p : Pw) (j : Jn) (ao : Option Addr) (ac : Nat) (so : Option Addr) (sc : Nat) (co : Option Addr) (cc : Nat) : Prop :=
  ∃ S, JX V w gj gp q dv ko kc p j S ao ac so sc co cc
def JPb (V : Nat → Prop) (w : World) (gj gp q : Nat) (dv : Value) (ko : Option Addr) (kc : Nat) (e : Int) (p : Pw) (j : Jn) (ao : Option Addr) (ac : Nat) (so : Option Addr) (sc : Nat) (co : Option Addr) (cc : Nat) : Ending → World → Prop := fun R w' =>
  R = .returned (.int .i64 e) ∧ ∃ V', JCb V' w' gj gp q dv ko kc p j ao ac so sc co cc ∧ JTo V w V' w'
def JPs (V : Nat → Prop) (w : World) (gj gp q : Nat) (dv : Value) (ko : Option Addr) (kc : Nat) (e : Int) (p : Pw) (j : Jn) (ao : Option Addr) (ac : Nat) (so : Option Addr) (sc : Nat) (co : Option Addr) (cc : Nat) : Ending → World → Prop := fun R w' =>
  R = .returned (.int .i64 e) ∧ ∃ V', JC V' w' gj gp q dv ko kc p j ∧ (e = 0 → JCb V' w' gj gp q dv ko kc p j ao ac so sc co cc) ∧ JTo V w V' w'
section
variable {V V1 V2 T : Nat → Prop} {w w1 w2 : World} {gj gp q kc : Nat} {dv : Value} {ko : Option Addr} {p p' : Pw} {j j' : Jn} {ao so co : Option Addr} {ac sc cc : Nat}
theorem JCb.jc (h : JCb V w gj gp q dv ko kc p j ao ac so sc co cc) : JC V w gj gp q dv ko kc p j := by obtain ⟨S, h⟩ := h; exact ⟨S, ao, ac, so, sc, co, cc, h⟩
theorem JCb.lt (h : JCb V w gj gp q dv ko kc p j ao ac so sc co cc) : ∀ x, V x → x < w.heap.size := h.jc.lt
theorem JCb.new (h : JCb V w gj gp q dv ko kc p j ao ac so sc co cc) (hb : Below w.heap.size w w1) : JCb V w1 gj gp q dv ko kc p j ao ac so sc co cc := by obtain ⟨S, h⟩ := h; exact ⟨S, h.new hb⟩
theorem JCb.names (h : JCb V w gj gp q dv ko kc p j ao ac so sc co cc) : p.names.length ≤ 64 ∧ p.names.Nodup ∧ (∀ n ∈ p.names, n.length ≤ 32) ∧ DGood q p.E := h.jc.names
theorem JX.turnA {S : Nat → Prop} {ao2 so2 co2 : Option Addr} {ac2 sc2 cc2 : Nat} (h : JX V w gj gp q dv ko kc p j S ao2 ac2 so2 sc2 co2 cc2) {ao : Option Addr} {ac : Nat} {so : Option Addr} {sc : Nat} {co : Option Addr} {cc : Nat} (k : Tu (fun x => x = gj) w w1)
    (hc : Cells w1 gj 69 (jcs gp j' ao ac so sc co cc)) (hf : JnF j') (hi : InAt w1 ao j'.ah) (hm : MfAt w1 j'.m so co) (h1 : j'.ah.length ≤ ac ∧ ac ≤ maxLen) (h2 : j'.m.sg.length ≤ sc ∧ sc ≤ maxLen)
    (hs : ∀ x, jsl j' ao so co x → jsl j ao2 so2 co2 x ∨ (w.heap.size ≤ x ∧ x < w1.heap.size)) : ∃ V', JCb V' w1 gj gp q dv ko kc p j' ao ac so sc co cc ∧ JTo V w V' w1 := by
  obtain ⟨g1, g0, g2, g3, g4, g6, g5⟩ := h
  have hgj := g0.far gj (.inl rfl)
  have hlt := g0.blk.lt
  have hS : ∀ x, S x → x < w.heap.size := fun x hx => g5 x (g3 x hx)
  refine ⟨fun x => V x ∨ (w.heap.size ≤ x ∧ x < w1.heap.size), ⟨S, ⟨g1.tu k (fun e => hgj.1 e.symm) (fun a e hn => (g4 a e hn).2 gj (.inl rfl)) (fun x _ hx e => hgj.2 (e ▸ hx)), ⟨hc, hf, hi, hm, h1, h2, fun x hx => ?_, fun x hx => ?_⟩, .inl g2, fun x hx => .inl (g3 x hx), fun a e hn => ⟨.inl (g4 a e hn).1, fun x hx => (by
      rcases hx with rfl | hx
      · exact (g4 a e hn).2 _ (.inl rfl)
      · rcases hs x hx with hx | hx
        · exact (g4 a e hn).2 x (.inr hx)
        · have := (g1.kf a e hn).2; omega)⟩, fun x hx => ?_, ?_⟩⟩, ⟨fun x hx => hx.imp id And.left, k.mono fun x _ e => e ▸ g6 gj (.inl rfl)⟩⟩
  · rcases hx with rfl | hx
    · exact hgj
    · rcases hs x hx with hx | hx
      · exact g0.far x (.inr hx)
      · have := g1.lt
        exact ⟨by omega, fun h => by have := hS x h; omega⟩
  · rcases hs x hx with hx | hx
    · exact g0.nj x hx
    · omega
  · rcases hx with rfl | hx
    · exact .inl (g6 _ (.inl rfl))
    · rcases hs x hx with hx | hx
      · exact .inl (g6 x (.inr hx))
      · exact .inr hx
  · rintro x (hx | hx)
    · exact Nat.lt_of_lt_of_le (g5 x hx) k.size
    · exact hx.2
theorem JX.cellA {S : Nat → Prop} {ao so co : Option Addr} {ac sc cc : Nat} (h : JX V w gj gp q dv ko kc p j S ao ac so sc co cc) (k : w.grownBy w1 (some gj)) (hc : Cells w1 gj 69 (jcs gp j' ao ac so sc co cc)) (hf : JnF j') (e1 : j'.ah = j.ah) (e2 : j'.m = j.m) : ∃ V', JCb V' w1 gj gp q dv ko kc p j' ao ac so sc co cc ∧ JTo V w V' w1 := by
  have kt : Tu (fun x => x = gj) w w1 := Tu.of_same k
  have hn : ∀ x, jsl j ao so co x → x ≠ gj := h.jn.nj
  have hsl : ∀ x, jsl j' ao so co x → jsl j ao so co x := fun x hx => by unfold jsl at hx ⊢; rwa [e1, e2] at hx
  refine h.turnA kt hc hf ?_ ?_ (by rw [e1]; exact h.jn.cap) (by rw [e2]; exact h.jn.scap) fun x hx => .inl (hsl x hx)
  · rw [e1]; exact h.jn.ins.tu kt fun h0 a e => hn _ (.inl ⟨h0, a, e, rfl⟩)
  · rw [e2]; exact ⟨h.jn.man.fit, h.jn.man.ps.tuS kt fun h0 a e => hn _ (.inr (.inl ⟨h0, a, e, rfl⟩)), h.jn.man.ns.tuS kt fun h0 a e => hn _ (.inr (.inr ⟨h0, a, e, rfl⟩)), h.jn.man.l1, h.jn.man.l2⟩
theorem JCb.split (h : JCb V w gj gp q dv ko kc p j ao ac so sc co cc) : ∃ Vp, PJ Vp w gp q dv ko kc p ∧ ∀ w1 Vp' p', PJ Vp' w1 gp q dv ko kc p' → p'.ks = p.ks → JTo Vp w Vp' w1 → ∃ V', JCb V' w1 gj gp q dv ko kc p' j ao ac so sc co cc ∧ JTo V w V' w1 := by
  obtain ⟨S, hx⟩ := h
  have hgp := hx.jn.far
  refine ⟨fun x => x = gp ∨ S x ∨ (p.ks ≠ [] ∧ ∃ a, ko = some a ∧ a.block = x), ⟨S, hx.pw, .inl rfl, fun x h => .inr (.inl h), fun a e hn => .inr (.inr ⟨hn, a, e, rfl⟩), ?_⟩, fun w1 Vp' p' hp hk ht => ?_⟩
  · rintro x (rfl | h | ⟨hn, a, e, rfl⟩)
    · exact hx.pw.lt
    · exact hx.lt x (hx.vs x h)
    · exact (hx.pw.kf a e hn).2
  · obtain ⟨S', h1, h2, h3, h4, h5⟩ := hp
    have hfar : ∀ x, (x = gj ∨ jsl j ao so co x) → ¬ (x = gp ∨ S x ∨ (p.ks ≠ [] ∧ ∃ a, ko = some a ∧ a.block = x)) := fun x hj h => by
      rcases h with h | h | ⟨hn, a, e, h⟩
      · exact (hgp x hj).1 h
      · exact (hgp x hj).2 h
      · exact (hx.vk a e hn).2 x hj h
    have hV' : ∀ x, Vp' x → V x ∨ w.heap.size ≤ x := fun x h => by
      rcases ht.more x h with (h | h | ⟨hn, a, e, h⟩) | h
      · exact .inl (h ▸ hx.vp)
      · exact .inl (hx.vs x h)
      · exact .inl (h ▸ (hx.vk a e hn).1)
      · exact .inr h
    have hno : ∀ x, (x = gj ∨ jsl j ao so co x) → ¬ Vp' x := fun x hj h => by
      rcases ht.more x h with h | h
      · exact hfar x hj h
      · have := hx.jn.lt hj; omega
    refine ⟨fun x => V x ∨ (w.heap.size ≤ x ∧ x < w1.heap.size), ⟨S', ⟨h1, (hx.jn.tu ht.tu hfar).less fun x hj h => absurd (h3 x h) (hno x hj), .inl hx.vp, fun x h => ?_, fun a e hn => ⟨.inl (hx.vk a e (by rw [← hk]; exact hn)).1, (hx.vk a e (by rw [← hk]; exact hn)).2⟩, fun x h => .inl (hx.vj x h), ?_⟩⟩, ⟨fun x h => h.imp id And.left, ht.tu.mono fun x _ h => ?_⟩⟩
    · rcases hV' x (h3 x h) with h | h1
      · exact .inl h
      · exact .inr ⟨h1, h5 x (h3 x h)⟩
    · rintro x (h | h)
      · exact Nat.lt_of_lt_of_le (hx.lt x h) ht.tu.size
      · exact h.2
    · rcases h with h | h | ⟨hn, a, e, h⟩
      · exact h ▸ hx.vp
      · exact hx.vs x h
      · exact h ▸ (hx.vk a e hn).1
attribute [local go_sem ↓] ld_bool st_bool ld_pw ld_u64 ld_inps ld_int
theorem hold_cb (e : Int) (w : World) (h : JCb V w gj gp q dv ko kc p j ao ac so sc co cc) : Calls Tryz.prog 63 #[.pointer (some ⟨gj, 0, none⟩), .int .i64 e] w (JPb V w gj gp q dv ko kc e p (j.hold e) ao ac so sc co cc) := by
  obtain ⟨S, hx⟩ := h
  have hc := hx.jn.blk
  obtain ⟨w1, s1, c1, q1, z1⟩ := cells_st ty_bool hc 11 (Nat.le_of_ble_eq_true rfl) (.bool (decide (e ≠ 0))) rfl rfl rfl
  have hf := hx.jn.fit
  have HF := Lib.hid (hx.cellA (j' := j.hold e) q1 c1 ⟨hf.o, hf.ah, hf.ahl, hf.sy, hf.os, hf.ap, hf.rows, hf.pl, hf.sgl, hf.ckl⟩ rfl rfl)
  have hd : (e != 0) = decide (e ≠ 0) := by by_cases h : e = 0 <;> simp [h]
  obtain ⟨Q, hQ⟩ : ∃ Q : Ending → World → Prop, Q = JPb V w gj gp q dv ko kc e p (j.hold e) ao ac so sc co cc := ⟨_, rfl⟩
  rw [← hQ]
  have HQ := Lib.hid hQ
  obtain ⟨b, hb⟩ : ∃ b, b = decide (e ≠ 0) := ⟨_, rfl⟩
  rw [← hb] at s1 hd
  clear hx hc c1 q1 z1 hf hQ hb
  go_enter Tryz.func63, Tryz.ntmps63
  go_wp2
  rw [HQ.out]
  exact ⟨rfl, HF.out⟩
end
section
variable {V : Nat → Prop} {w w1 : World} {gj gp q kc : Nat} {dv : Value} {ko : Option Addr} {p : Pw} {j : Jn} {S : Nat → Prop} {ao so co so2 co2 : Option Addr} {ac sc cc sc2 cc2 : Nat} {R : Ending} {m : Mf}
theorem JX.mannedA (hx : JX V w gj gp q dv ko kc p j S ao ac so2 sc2 co2 cc2) (k : w.grownBy w1 (some gj)) (hc : Cells w1 gj 69 (jcs gp { j with m := m } ao ac so sc co cc)) (hf : JnF { j with m := m }) (hm : MfAt w m so co) (hsc : m.sg.length ≤ sc ∧ sc ≤ maxLen)
    (hfar : ∀ x, mbl m so co x → ¬ V x) : JCb (fun x => V x ∨ mbl m so co x) w1 gj gp q dv ko kc p { j with m := m } ao ac so sc co cc ∧ Tu V w w1 := by
  obtain ⟨h1, h0, h2, h3, h4, h6, h5⟩ := hx
  have kt : Tu (fun x => x = gj) w w1 := Tu.of_same k
  have hgj := h6 gj (.inl rfl)
  have hjs : ∀ x, jsl { j with m := m } ao so co x → (j.ah ≠ [] ∧ ∃ a, ao = some a ∧ a.block = x) ∨ mbl m so co x := fun x hx => hx
  have hah : ∀ x, (j.ah ≠ [] ∧ ∃ a, ao = some a ∧ a.block = x) → jsl j ao so2 co2 x := fun x hx => .inl hx
  refine ⟨⟨S, ⟨h1.tu kt (fun e => (h0.far gj (.inl rfl)).1 e.symm) (fun a e hn => (h4 a e hn).2 gj (.inl rfl)) (fun x _ hx e => (h0.far gj (.inl rfl)).2 (e ▸ hx)), ⟨hc, hf, h0.ins.tu kt fun hn a e => h0.nj _ (.inl ⟨hn, a, e, rfl⟩), hm.tuV kt fun x hx e => hfar x hx (e ▸ hgj), h0.cap, hsc, fun x hx => ?_, fun x hx => ?_⟩, .inl h2, fun x hx => .inl (h3 x hx), fun a e hn => ⟨.inl (h4 a e hn).1, fun x hx => ?_⟩, fun x hx => ?_, fun x hx => ?_⟩⟩, kt.mono fun x _ e => e ▸ hgj⟩
  · rcases hx with rfl | hx
    · exact h0.far _ (.inl rfl)
    · rcases hjs x hx with hx | hx
      · exact h0.far x (.inr (hah x hx))
      · exact ⟨fun e => hfar x hx (e ▸ h2), fun hS => hfar x hx (h3 x hS)⟩
  · rcases hjs x hx with hx | hx
    · exact h0.nj x (hah x hx)
    · exact fun e => hfar x hx (e ▸ hgj)
  · rcases hx with rfl | hx
    · exact (h4 a e hn).2 _ (.inl rfl)
    · rcases hjs x hx with hx | hx
      · exact (h4 a e hn).2 x (.inr (hah x hx))
      · exact fun e2 => hfar x hx (e2 ▸ (h4 a e hn).1)
  · rcases hx with rfl | hx
    · exact .inl hgj
    · rcases hjs x hx with hx | hx
      · exact .inl (h6 x (.inr (hah x hx)))
      · exact .inr hx
  · rcases hx with hx | hx
    · exact Nat.lt_of_lt_of_le (h5 x hx) kt.size
    · exact Nat.lt_of_lt_of_le (mbl_lt hm hx) kt.size
attribute [local go_sem ↓] ld_pw ld_man st_man ld_rec st_rec ld_part st_part ld_int st_int ld_u64 st_u64 ld_u8 ld_bool
set_option maxHeartbeats 4000000 in
theorem jswap_cb {K : Nat} {cap : Array Value} {e2 : Int} {p2 : Pw} {j2 : Jn} (hin : ∀ (args : Array Value) (w : World), (callFunc K args).run Tryz.prog w = .ok (.enter K args) w) (w : World) (h : JCb V w gj gp q dv ko kc p j ao ac so2 sc2 co2 cc2) (hm : MfAt w m so co) (hsc : m.sg.length ≤ sc ∧ sc ≤ maxLen)
    (hfar : ∀ x, mbl m so co x → ¬ V x) (hjf : JnF { j with m := m }) (hpn : p.n + 5 < 1000000) (ht : Tab w)
    (hth : swE q m p = 0 → ∀ w1 V1, JCb V1 w1 gj gp q dv ko kc (swP q m p) { j with m := m } ao ac so sc co cc → JTo (fun x => V x ∨ mbl m so co x) w V1 w1 → MfAt w1 m so co → Calls Tryz.prog K cap w1 (JPb V1 w1 gj gp q dv ko kc e2 p2 j2 ao ac so sc co cc)) :
    Calls Tryz.prog 75 #[.pointer (some ⟨gj, 0, none⟩), .agg (mcs m so sc co cc), .func (.func K) #[] cap] w (JPs (fun x => V x ∨ mbl m so co x) w gj gp q dv ko kc (swA q p j m e2 p2 j2).e (swA q p j m e2 p2 j2).p (swA q p j m e2 p2 j2).j ao ac so sc co cc) := by
  have HML := Lib.hid (fun x (hx : mbl m so co x) => mbl_lt hm hx)
  have HSC := Lib.hid hsc
  have HFAR := Lib.hid hfar
  have HJF := Lib.hid hjf
  have HPN := Lib.hid hpn
  have HTH := Lib.hid hth
  have H0 := Loc.one w 60 (mcs m so sc co cc)
  have HJ0 := Lib.hid (h.new H0.be)
  have HT0 := Lib.hid (tab_below ht H0.be)
  have HM0 := Lib.hid (hm.to H0.be)
  have HB0 := Lib.hid H0.be
  have HVL := Lib.hid h.lt
  have HC0 : Hid (Cells _ w.heap.size 60 (mcs m so sc co cc)) := H0.get 0 rfl
  obtain ⟨Q, hQ⟩ : ∃ Q : Ending → World → Prop, Q = JPs (fun x => V x ∨ mbl m so co x) w gj gp q dv ko kc (swA q p j m e2 p2 j2).e (swA q p j m e2 p2 j2).p (swA q p j m e2 p2 j2).j ao ac so sc co cc := ⟨_, rfl⟩
  rw [← hQ]
  have HQ := Lib.hid hQ
  clear h hm hsc hfar hjf hpn ht hth H0 hQ
  go_enter Tryz.func75, Tryz.ntmps75
  go_upto_region 1 with fail
  generalize w.alloc (.cells (mcs m so sc co cc) 60) = wa at *
  obtain ⟨wd, hwd⟩ : ∃ wd, ({ wa with drawn := wa.drawn + 1 } : World) = wd := ⟨_, rfl⟩
  have hbd : Below wa.heap.size wa wd := by rw [← hwd]; exact (Below.refl _ wa).drew
  have HBd := Lib.hid (HB0.out.trans (hbd.mono HB0.out.size))
  have HJd := Lib.hid (HJ0.out.new hbd)
  have HTd := Lib.hid (tab_below HT0.out hbd)
  have HMd := Lib.hid (HM0.out.to hbd)
  have HCd := Lib.hid (cells_new HC0.out hbd)
  clear hbd HB0 HJ0 HT0 HM0 HC0
  obtain ⟨S, hx⟩ := HJd.out
  have l1 := run_ldO ty_pw hx.jn.blk 0 (v := .pointer (some ⟨gp, 0, none⟩)) rfl
  have l2 : (ldT 60 (.pointer (some ⟨w.heap.size, 0, none⟩))).run Tryz.prog wd = .ok (.agg (mcs m so sc co cc)) wd := run_ldA ty_man HCd.out 0 (Nat.le_of_ble_eq_true rfl)
  have HNM := Lib.hid HJd.out.names
  obtain ⟨S1, hp1, hS1, hb1⟩ := hx.open
  have HP1 := Lib.hid hp1
  have HS1 := Lib.hid hS1
  have HBK := Lib.hid hb1
  clear hx hp1 hS1 hb1
  refine wp_region_still_tail 5 (by kernel_rfl) (by kernel_rfl) ?_
  simp only [List.take_succ_cons, List.take_zero, List.drop_succ_cons, List.drop_zero]
  rw [hwd]
  clear hwd
  repeat still_step
  refine wpStill_nil ?_
  clear l1 l2
  go_wp2_with fail
  refine (swap_c m so sc co cc wd HP1.out HS1.out HMd.out HPN.out (Nat.le_trans HNM.out.1 (by decide)) HTd.out).mono ?_
  rintro R w2 ⟨rfl, hp2, ht2⟩
  obtain ⟨V2, S2, hx2, hj2⟩ := HBK.out w2 _ hp2 (swP_ks _ _ _) ht2
  have HX2 := Lib.hid hx2
  have HJ2 := Lib.hid hj2
  have HTO2 := Lib.hid ((JTo.new (V := V) HBd.out).trans hj2)
  have HC2 := Lib.hid (Cells.tu HCd.out hj2.tu (fun hv => by have := HVL.out _ hv; omega))
  have HM2 := Lib.hid (HMd.out.tuV hj2.tu HFAR.out)
  clear hp2 ht2 hx2 hj2 HP1 HS1 HBK
  by_cases he : swE q m p = 0
  case neg =>
    have HFin : Hid (∀ w3 V3, JCb V3 w3 gj gp q dv ko kc (swP q m p) (j.hold (swE q m p : Nat)) ao ac so2 sc2 co2 cc2 → JTo V2 w2 V3 w3 → Q (.returned (.int .i64 (swE q m p : Nat))) w3) := fun w3 V3 h3 t3 => by
      rw [HQ.out, show swA q p j m e2 p2 j2 = ⟨(swE q m p : Nat), swP q m p, j.hold (swE q m p : Nat)⟩ from if_neg he]
      exact ⟨rfl, V3, h3.jc, fun h0 => absurd h0 (show ¬ ((swE q m p : Nat) : Int) = 0 by omega), (HTO2.out.trans t3).wide⟩
    generalize swE q m p = e at *
    have hq : ((e : Int) != 0) = true := by rw [bne_iff_ne]; omega
    clear he HTH
    go_wp2_with fail
    refine (hold_cb (e : Int) w2 ⟨S2, HX2.out⟩).mono ?_
    rintro R w3 ⟨rfl, V3, h3, t3⟩
    have HF := Lib.hid (HFin.out w3 V3 h3 t3)
    clear h3 t3
    go_wp2
    exact HF.out
  case pos =>
    have hq : (((swE q m p : Nat) : Int) != 0) = false := by rw [he]; rfl
    have hsa : swA q p j m e2 p2 j2 = ⟨e2, p2, j2.hold e2⟩ := if_pos he
    rw [hsa] at HQ
    have HH := Lib.hid (HTH.out he)
    generalize swE q m p = e at *
    have l2 : (ldT 60 (.pointer (some ⟨w.heap.size, 0, none⟩))).run Tryz.prog w2 = .ok (.agg (mcs m so sc co cc)) w2 := run_ldA ty_man HC2.out 0 (Nat.le_of_ble_eq_true rfl)
    obtain ⟨w3, s3, c3, q3, z3⟩ := cells_stA ty_man HX2.out.jn.blk 6 (mcs m so sc co cc) (Nat.le_of_ble_eq_true rfl) rfl (mcs_one _ _ _ _ _) (cs' := jcs gp { j with m := m } ao ac so sc co cc) rfl
    have hmn := HX2.out.mannedA q3 c3 HJF.out HM2.out HSC.out (fun x hx => HTO2.out.fars (HML.out x hx) (HFAR.out x hx))
    have HJ3 := Lib.hid hmn.1
    have HTO3 : Hid (JTo (fun x => V x ∨ mbl m so co x) w (fun x => V2 x ∨ mbl m so co x) w3) := (HTO2.out.both (A := mbl m so co)).trans ⟨fun x hx => .inl hx, hmn.2.mono fun x _ hx => .inl hx⟩
    have HK := Lib.hid (HH.out w3 _ HJ3.out HTO3.out (HM2.out.tuV (Tu.of_same q3) (fun x hx e => (HTO2.out.fars (HML.out x hx) (HFAR.out x hx)) (e ▸ HX2.out.vj gj (.inl rfl)))))
    clear hsa he hmn c3 q3 z3 HTH HH HX2 HJ2 HC2 HM2 HJ3
    go_wp2_with fail
    refine HK.out.mono ?_
    rintro R w4 ⟨rfl, V4, hj4, ht4⟩
    have HJ4 := Lib.hid hj4
    have HTO4 := Lib.hid (HTO3.out.trans ht4)
    clear hj4 ht4 HK s3 l2
    go_wp2_with fail
    refine (hold_cb e2 w4 HJ4.out).mono ?_
    rintro R w5 ⟨rfl, V5, hj5, ht5⟩
    have HFin : Hid (Q (.returned (.int .i64 e2)) w5) := by
      show Q _ _
      rw [HQ.out]
      exact ⟨rfl, V5, hj5.jc, fun _ => hj5, HTO4.out.trans ht5⟩
    clear hj5 ht5
    go_wp2
    exact HFin.out
set_option maxHeartbeats 4000000 in
theorem jbegin_cb {K : Nat} {ao2 so2 co2 : Option Addr} {ac2 sc2 cc2 : Nat} {cap : Array Value} {e2 : Int} {p2 : Pw} {j2 : Jn} (l : List Rc) (hin : ∀ (args : Array Value) (w : World), (callFunc K args).run Tryz.prog w = .ok (.enter K args) w) (w : World) (h : JCb V w gj gp q dv ko kc p j ao2 ac2 so2 sc2 co2 cc2) (hm : MfAt w m so co) (hsc : m.sg.length ≤ sc ∧ sc ≤ maxLen)
    (hfar : ∀ x, mbl m so co x → ¬ V x) (hjf : JnF { j with m := m }) (hpn : p.n + 8 < 1000000) (ht : Tab w) (hV : ¬ V 1) (hl : ∀ r ∈ l, r.fit) (hll : l.length ≤ 400000) (ha : RcsAt w ao l)
    (hth : SBE p q (hdM m) l = 0 → swE q m (SBP p q (hdM m) l) = 0 → ∀ w1 V1, JCb V1 w1 gj gp q dv ko kc (swP q m (SBP p q (hdM m) l)) { j with m := m } ao2 ac2 so sc co cc → JTo (fun x => V x ∨ mbl m so co x) w V1 w1 → MfAt w1 m so co → Calls Tryz.prog K cap w1 (JPb V1 w1 gj gp q dv ko kc e2 p2 j2 ao2 ac2 so sc co cc)) :
    Calls Tryz.prog 71 #[.pointer (some ⟨gj, 0, none⟩), .agg (mcs m so sc co cc), .slice ao l.length ac, .func (.func K) #[] cap] w (JPs (fun x => V x ∨ mbl m so co x) w gj gp q dv ko kc (bgA q p j m l e2 p2 j2).e (bgA q p j m l e2 p2 j2).p (bgA q p j m l e2 p2 j2).j ao2 ac2 so sc co cc) := by
  have HML := Lib.hid (fun x (hx : mbl m so co x) => mbl_lt hm hx)
  have HSC := Lib.hid hsc
  have HFAR := Lib.hid hfar
  have HJF := Lib.hid hjf
  have HPN := Lib.hid hpn
  have HTH := Lib.hid hth
  have HV := Lib.hid hV
  have HL := Lib.hid (And.intro hl hll)
  have HA := Lib.hid ha
  have HIN := Lib.hid hin
  have HMF := Lib.hid (hdM_fit hm.fit)
  have H0 := Loc.one w 60 (mcs m so sc co cc)
  have HJ := Lib.hid h
  have HT := Lib.hid ht
  have HM := Lib.hid hm
  have HVL := Lib.hid h.lt
  have l0 : (ldT 60 (.pointer (some ⟨w.heap.size, 0, none⟩))).run Tryz.prog _ = .ok (.agg (mcs m so sc co cc)) _ := H0.ldA ty_man 0 rfl 0 (vs := mcs m so sc co cc) rfl (Nat.le_of_ble_eq_true rfl)
  have H0' := Lib.hid H0
  obtain ⟨Q, hQ⟩ : ∃ Q : Ending → World → Prop, Q = JPs (fun x => V x ∨ mbl m so co x) w gj gp q dv ko kc (bgA q p j m l e2 p2 j2).e (bgA q p j m l e2 p2 j2).p (bgA q p j m l e2 p2 j2).j ao2 ac2 so sc co cc := ⟨_, rfl⟩
  rw [← hQ]
  have HQ := Lib.hid hQ
  clear h hm hsc hfar hjf hpn ht hth H0 hQ hV hl hll ha hin
  go_enter Tryz.func71, Tryz.ntmps71
  go_upto_region 1 with fail
  generalize w.alloc (.cells (mcs m so sc co cc) 60) = wa at *
  go_wp2_with fail
  refine (newest_c m so sc co cc wa (HM.out.to H0'.out.be) HSC.out).mono ?_
  rintro R w1 ⟨rfl, hb1⟩
  obtain ⟨g2, w2, z2, s2, H2, q2⟩ := (H0'.out.to hb1).newA ty_part #[.int .u64 0, .int .u64 0] #[.int .u64 ((lastS m.sg).1 : Int), .int .u64 ((lastS m.sg).2 : Int)] rfl rfl rfl
  replace H2 : Loc w.heap.size w w2 [(w.heap.size, 60, mcs m so sc co cc), (g2, 122, #[.int .u64 ((lastS m.sg).1 : Int), .int .u64 ((lastS m.sg).2 : Int)])] := H2
  have l3 := H2.ldO ty_u64 1 rfl 0 (v := .int .u64 ((lastS m.sg).1 : Int)) rfl
  have l4 := H2.ldO ty_u64 1 rfl 1 (v := .int .u64 ((lastS m.sg).2 : Int)) rfl
  have l5 := H2.ldO ty_u64 0 rfl 0 (v := .int .u64 (m.ep : Int)) rfl
  have l6 := H2.ldO ty_u8 0 rfl 1 (v := .int .u8 (m.pl : Int)) rfl
  obtain ⟨g3, w3, z3, s3, H3, q3⟩ := H2.newA ty_rec #[.int .i64 0, .int .u64 0, .int .u8 0, .int .u8 0, .int .u8 0, .int .u64 0, .int .u64 0, .int .u64 0, .int .u8 0] #[.int .i64 3, .int .u64 0, .int .u8 0, .int .u8 0, .int .u8 0, .int .u64 ((lastS m.sg).1 : Int), .int .u64 ((lastS m.sg).2 : Int), .int .u64 (m.ep : Int), .int .u8 (m.pl : Int)] rfl rfl rfl
  have H3' : Hid (Loc w.heap.size w w3 [(w.heap.size, 60, mcs m so sc co cc), (g2, 122, #[.int .u64 ((lastS m.sg).1 : Int), .int .u64 ((lastS m.sg).2 : Int)]), (g3, 114, rcs (hdM m))]) := H3
  clear H3 H2 q2 q3 hb1 H0'
  go_upto_region 3 with fail
  clear l0 l3 l4 l5 l6 s2 s3 z2 z3
  obtain ⟨wd, hwd⟩ : ∃ wd, ({ w3 with drawn := w3.drawn + 1 } : World) = wd := ⟨_, rfl⟩
  have hbd : Below w3.heap.size w3 wd := by rw [← hwd]; exact (Below.refl _ w3).drew
  have HLd := Lib.hid (H3'.out.to hbd)
  have HJd := Lib.hid (HJ.out.new HLd.out.be)
  have HTd := Lib.hid (tab_below HT.out HLd.out.be)
  have HCd : Hid (Cells wd w.heap.size 60 (mcs m so sc co cc)) := HLd.out.get 0 rfl
  have hbx := HLd.out.bge 2 rfl
  clear hbd H3'
  obtain ⟨S, hx⟩ := HJd.out
  have l1 := run_ldO ty_pw hx.jn.blk 0 (v := .pointer (some ⟨gp, 0, none⟩)) rfl
  have l2 : (ldT 114 (.pointer (some ⟨g3, 0, none⟩))).run Tryz.prog wd = .ok (.agg (rcs (hdM m))) wd := HLd.out.ldA ty_rec 2 rfl 0 (vs := rcs (hdM m)) rfl (Nat.le_of_ble_eq_true rfl)
  obtain ⟨S1, hp1, hS1, hb1⟩ := hx.open
  have HP1 := Lib.hid hp1
  have HS1 := Lib.hid hS1
  have HBK := Lib.hid hb1
  clear hx hp1 hS1 hb1 hbx
  refine wp_region_still_tail 6 (by kernel_rfl) (by kernel_rfl) ?_
  simp only [List.take_succ_cons, List.take_zero, List.drop_succ_cons, List.drop_zero]
  rw [hwd]
  clear hwd
  repeat still_step
  refine wpStill_nil ?_
  clear l1 l2
  go_wp2_with fail
  refine (sbegin_c (hdM m) l ao ac wd HP1.out HS1.out HMF.out HL.out.1 HL.out.2 (RcsAt.new HA.out HLd.out.be) (by have := HPN.out; omega) HTd.out).mono ?_
  rintro R w4 ⟨rfl, hp4, ht4⟩
  obtain ⟨V2, S2, hx4, hj4⟩ := HBK.out w4 _ hp4 (SBP_ks _ _ _ _) ht4
  have HJ4 : Hid (JCb V2 w4 gj gp q dv ko kc (SBP p q (hdM m) l) j ao2 ac2 so2 sc2 co2 cc2) := ⟨S2, hx4⟩
  have HTO4 := Lib.hid ((JTo.new (V := V) HLd.out.be).trans hj4)
  have HC4 := Lib.hid (Cells.tu HCd.out hj4.tu (fun hv => by have := HVL.out _ hv; omega))
  have HM4 := Lib.hid ((HM.out.to HLd.out.be).tuV hj4.tu HFAR.out)
  have HT4 := Lib.hid (tab_tu HT.out HTO4.out.tu HV.out)
  clear hp4 ht4 hx4 hj4 HP1 HS1 HBK HTd HJd HCd HLd
  by_cases he : SBE p q (hdM m) l = 0
  case neg =>
    have HFin : Hid (∀ w5 V5, JCb V5 w5 gj gp q dv ko kc (SBP p q (hdM m) l) (j.hold (SBE p q (hdM m) l)) ao2 ac2 so2 sc2 co2 cc2 → JTo V2 w4 V5 w5 → Q (.returned (.int .i64 (SBE p q (hdM m) l))) w5) := fun w5 V5 h5 t5 => by
      rw [HQ.out, show bgA q p j m l e2 p2 j2 = ⟨SBE p q (hdM m) l, SBP p q (hdM m) l, j.hold (SBE p q (hdM m) l)⟩ from if_neg he]
      exact ⟨rfl, V5, h5.jc, fun h0 => absurd h0 he, (HTO4.out.trans t5).wide⟩
    generalize SBE p q (hdM m) l = e at *
    have hq : (e != 0) = true := by rw [bne_iff_ne]; exact he
    clear he HTH
    go_wp2_with fail
    refine (hold_cb e w4 HJ4.out).mono ?_
    rintro R w5 ⟨rfl, V5, h5, t5⟩
    have HF := Lib.hid (HFin.out w5 V5 h5 t5)
    clear h5 t5
    go_wp2
    exact HF.out
  case pos =>
    have hq : (SBE p q (hdM m) l != 0) = false := by rw [he]; rfl
    have hsa : bgA q p j m l e2 p2 j2 = swA q (SBP p q (hdM m) l) j m e2 p2 j2 := if_pos he
    rw [hsa] at HQ
    have HH := Lib.hid (HTH.out he)
    clear HTH hsa
    generalize SBE p q (hdM m) l = e at *
    have HPN2 : Hid ((SBP p q (hdM m) l).n + 5 < 1000000) := by
      have h1 := (SBP_says p q (hdM m) l).2.2
      have h2 := HPN.out
      show _ < _
      omega
    generalize SBP p q (hdM m) l = P at *
    have l2 : (ldT 60 (.pointer (some ⟨w.heap.size, 0, none⟩))).run Tryz.prog w4 = .ok (.agg (mcs m so sc co cc)) w4 := run_ldA ty_man HC4.out 0 (Nat.le_of_ble_eq_true rfl)
    clear he
    go_wp2_with fail
    refine (jswap_cb (e2 := e2) (p2 := p2) (j2 := j2) HIN.out w4 HJ4.out HM4.out HSC.out (fun x hx => HTO4.out.fars (HML.out x hx) (HFAR.out x hx)) HJF.out HPN2.out HT4.out fun h0 w5 V5 h5 t5 m5 => HH.out h0 w5 V5 h5 ((HTO4.out.both (A := mbl m so co)).trans t5) m5).mono ?_
    rintro R w5 ⟨rfl, V5, h5, hb5, t5⟩
    have HFin : Hid (Q (.returned (.int .i64 (swA q P j m e2 p2 j2).e)) w5) := by
      show Q _ _
      rw [HQ.out]
      exact ⟨rfl, V5, h5, hb5, (HTO4.out.both (A := mbl m so co)).trans t5⟩
    clear h5 hb5 t5 l2
    go_wp2
    exact HFin.out
attribute [local go_sem ↓] ld_pw ld_man ld_u64
theorem open1_cb {s1 c1 : Option Addr} {d1 e1 : Nat} (b g : Nat) (w : World) (h : JCb V w gj gp q dv ko kc p j ao ac s1 d1 c1 e1) (hb : w.cell? ⟨b, 0, none⟩ = some (.pointer (some ⟨gp, 0, none⟩))) (hc : Cells w g 60 (mcs m so sc co cc)) (hm : MfAt w m so co) (h1 : m.sg.length ≤ 400) (h2 : m.ck.length ≤ 400) (hn : p.n + 100 < 1000000) :
    Calls Tryz.prog 81 #[.pointer (some ⟨b, 0, none⟩), .pointer (some ⟨g, 0, none⟩)] w (JPb V w gj gp q dv ko kc ((clr q (jfs m) p.names p).1 : Nat) (clr q (jfs m) p.names p).2 j ao ac s1 d1 c1 e1) := by
  obtain ⟨Vp, hpj, hback⟩ := h.split
  have HPJ := Lib.hid hpj
  have HBK := Lib.hid hback
  have HM := Lib.hid hm
  have HSZ := Lib.hid (And.intro h1 (And.intro h2 hn))
  have l1 := run_ldC ty_pw hb
  have l3 : (ldT 60 (.pointer (some ⟨g, 0, none⟩))).run Tryz.prog w = .ok (.agg (mcs m so sc co cc)) w := run_ldA ty_man hc 0 (Nat.le_of_ble_eq_true rfl)
  obtain ⟨Q, hQ⟩ : ∃ Q : Ending → World → Prop, Q = JPb V w gj gp q dv ko kc ((clr q (jfs m) p.names p).1 : Nat) (clr q (jfs m) p.names p).2 j ao ac s1 d1 c1 e1 := ⟨_, rfl⟩
  rw [← hQ]
  have HQ := Lib.hid hQ
  clear h hb hc hm h1 h2 hn hQ hpj hback
  go_enter Tryz.func81, Tryz.ntmps81
  go_wp2_with fail
  refine (clear_c m so sc co cc w HPJ.out HM.out HSZ.out.1 HSZ.out.2.1 HSZ.out.2.2).mono ?_
  rintro R w2 ⟨rfl, Vp2, hp2, ht2⟩
  obtain ⟨V2, hj2, hto2⟩ := HBK.out w2 Vp2 _ hp2 (clr_says _ _ _ _).1 ht2
  have HFin : Hid (Q (.returned (.int .i64 ((clr q (jfs m) p.names p).1 : Nat))) w2) := by
    show Q _ _
    rw [HQ.out]
    exact ⟨rfl, V2, hj2, hto2⟩
  clear hp2 ht2 hj2 hto2 l1 l3
  go_wp2
  exact HFin.out
end
end Go.Proofs.YtgeaacabpnepmaaGreatDoor
