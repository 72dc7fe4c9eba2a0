/- Texts of the walk. -/
import Derived.Test.YtgeaacabpnepmaaGreatDoorZp8
import Derived.Test.YtgeaacabpnepmaaGreatDoorKc8
/- Load, and what a disk's file tells, by the program: one contract each. -/
namespace Go.Proofs.YtgeaacabpnepmaaGreatDoor
open Go.RowKit
set_option linter.unusedVariables false
set_option linter.unusedSimpArgs false
set_option maxRecDepth 20000
attribute [local go_sem ↓] st_man
theorem rd_most {q : Nat} {E : List Ent} (h : DGood q E) (n : List UInt8) : (rd E n).length ≤ 65536 := by
  unfold rd
  split
  · split
    · rename_i f hf
      exact h.most f (fndK_some hf).1
    · simp
  · simp
theorem prd_most {S : Nat → Prop} {w : World} {g q kc : Nat} {dv : Value} {ko : Option Addr} {p : Pw} (h : PwC S w g dv q ko kc p) (n : List UInt8) : (p.rd n).length ≤ 65536 := by
  unfold Pw.rd
  split
  · simp
  · exact rd_most h.dk.good n
set_option maxHeartbeats 4000000 in
theorem load_c {S : Nat → Prop} {g q : Nat} {dv : Value} {kc : Nat} {ko : Option Addr} {p : Pw} (w : World) (h : PwC S w g dv q ko kc p) (ht : Tab w) :
    Calls Tryz.prog 177 #[.pointer (some ⟨g, 0, none⟩)] w (ManPost w (ldM p) (ldC p)) := by
  have H0 := Loc.one w 60 (mcs mz none 0 none 0)
  have HT := Lib.hid ht
  have HP := Lib.hid h
  have HL := Lib.hid (prd_most h nM)
  have HM : Hid (ldM p = if p.rdc nM = 0 then tkM (p.rd nM) else mz) := rfl
  have HC : Hid (ldC p = if p.rdc nM = 0 then tkE (p.rd nM) else (p.rdc nM : Nat)) := rfl
  have KR : Hid (∀ W, PwC S W g dv q ko kc p → Calls Tryz.prog 178 #[.pointer (some ⟨g, 0, none⟩), .string (str nM)] W fun R w' => R = .returned (.tuple #[.string (str (p.rd nM)), .int .i64 (p.rdc nM : Nat)]) ∧ Below W.heap.size W w') := fun W hW => pread_c nM W hW (by decide)
  obtain ⟨Q, hQ⟩ : ∃ Q, Q = ManPost w (ldM p) (ldC p) := ⟨_, rfl⟩
  rw [← hQ]
  have HQ := Lib.hid hQ
  obtain ⟨s, hs⟩ : ∃ s, s = p.rd nM := ⟨_, rfl⟩
  obtain ⟨c, hc⟩ : ∃ c, c = p.rdc nM := ⟨_, rfl⟩
  rw [← hs] at HL HM HC KR
  rw [← hc] at HM HC KR
  clear hQ hs hc h ht
  go_enter Tryz.func177, Tryz.ntmps177
  go_upto_region 1 with fail
  rw [show (#[.int .u64 0, .int .u8 0, .slice none 0 0, .slice none 0 0] : Array Value) = mcs mz none 0 none 0 from rfl]
  generalize w.alloc (.cells (mcs mz none 0 none 0) 60) = wa at *
  go_wp2_with fail
  refine (KR.out wa (HP.out.new H0.be)).mono ?_
  rintro R w1 ⟨rfl, hb1⟩
  have H1 := H0.to hb1
  clear hb1 H0
  by_cases h0 : c = 0
  · have hM := HM.out
    have hC := HC.out
    rw [if_pos h0] at hM hC
    have HMC := Lib.hid (And.intro hM hC)
    clear hM hC HM HC
    subst h0
    go_wp2_with fail
    refine (mtake_c s w1 (by have := HL.out; omega) (tab_below HT.out H1.be)).mono ?_
    rintro R w2 ⟨so, sc, co, cc, rfl, hm2, hb2, hn1, hn2, hn3⟩
    have H2 := H1.to hb2
    obtain ⟨w3, s3, H3, q3⟩ := H2.stA ty_man 0 rfl 0 (mcs (tkM s) so sc co cc) (cs' := mcs (tkM s) so sc co cc) rfl (L' := [(w.heap.size, 60, mcs (tkM s) so sc co cc)]) rfl (Nat.le_of_ble_eq_true rfl) rfl rfl
    have hlt := H1.low (e := (w.heap.size, 60, mcs mz none 0 none 0)) (by simp)
    dsimp only at hlt
    have h9 : Hid (Q (.returned (.tuple #[.agg (mcs (tkM s) so sc co cc), .int .i64 (tkE s)])) w3) := by
      show Q _ _
      rw [HQ.out, HMC.out.1, HMC.out.2]
      exact ⟨so, sc, co, cc, rfl, ⟨hm2.fit, ps_off hm2.ps q3 (fun _ a e => by have := hn1 a e; omega), ns_off hm2.ns q3 (fun _ a e => by have := hn2 a e; omega), hm2.l1, hm2.l2⟩, H3.be, fun a e => by have := hn1 a e; omega, fun a e => by have := hn2 a e; omega, hn3⟩
    obtain ⟨e, he⟩ : ∃ e, e = tkE s := ⟨_, rfl⟩
    rw [← he] at h9 ⊢
    clear he hm2 hb2 hn1 hn2 hn3 hlt q3 H1 H2 HMC
    go_wp2
    refine bodyPost_ret (shut_man _ e _ Tryz.results177 ty_man (H3.get 0 rfl) rfl rfl rfl) rfl ?_
    exact h9.out
  · have hM := HM.out
    have hC := HC.out
    rw [if_neg h0] at hM hC
    have HMC := Lib.hid (And.intro hM hC)
    have hq : ((c : Int) != 0) = true := by rw [bne_iff_ne]; omega
    clear hM hC HM HC h0
    obtain ⟨w3, s3, H3, _⟩ := H1.stA ty_man 0 rfl 0 #[.int .u64 0, .int .u8 0, .slice none 0 0, .slice none 0 0] (cs' := mcs mz none 0 none 0) rfl (L' := [(w.heap.size, 60, mcs mz none 0 none 0)]) rfl (Nat.le_of_ble_eq_true rfl) rfl rfl
    go_wp2
    refine bodyPost_ret (shut_man _ (c : Int) _ Tryz.results177 ty_man (H3.get 0 rfl) rfl rfl rfl) rfl ?_
    rw [HQ.out, HMC.out.1, HMC.out.2]
    exact man_none H3.be _
end Go.Proofs.YtgeaacabpnepmaaGreatDoor
/- A journal in memory, with its power: what lies where; what stays as it is. Nothing of the program but the shapes of its types. -/
namespace Go.Proofs.YtgeaacabpnepmaaGreatDoor
open Go.RowKit
set_option linter.unusedVariables false
set_option linter.unusedSimpArgs false
set_option maxRecDepth 20000

def InAt (w : World) (ao : Option Addr) (l : List Nat) : Prop := ∀ k (hk : k < l.length), ∃ b o, ao = some ⟨b, o, none⟩ ∧ w.cell? ⟨b, o + k, none⟩ = some (.int .u8 ((l[k]'hk : Nat) : Int))
def PrAt (w : World) (ao : Option Addr) (l : List (Nat × Nat)) : Prop := ∀ k (hk : k < l.length), ∃ b o, ao = some ⟨b, o, none⟩ ∧ w.cell? ⟨b, o + k * 2, none⟩ = some (.int .u8 ((l[k]'hk).1 : Int)) ∧ w.cell? ⟨b, o + k * 2 + 1, none⟩ = some (.int .u8 ((l[k]'hk).2 : Int))
section
variable {w w' : World} {ao so co : Option Addr} {S : Nat → Prop}
theorem InAt.nil (w : World) (ao : Option Addr) : InAt w ao [] := fun k hk => by cases hk
theorem PrAt.nil (w : World) (ao : Option Addr) : PrAt w ao [] := fun k hk => by cases hk
theorem InAt.lt {l : List Nat} (h : InAt w ao l) (h0 : l ≠ []) : ∀ a, ao = some a → a.block < w.heap.size := fun a e => by
  obtain ⟨b, o, e2, hc⟩ := h 0 (List.length_pos_iff.2 h0)
  rw [e] at e2; cases e2
  exact World.block_lt_of_cell? w _ hc
theorem PrAt.lt {l : List (Nat × Nat)} (h : PrAt w ao l) (h0 : l ≠ []) : ∀ a, ao = some a → a.block < w.heap.size := fun a e => by
  obtain ⟨b, o, e2, hc, _⟩ := h 0 (List.length_pos_iff.2 h0)
  rw [e] at e2; cases e2
  exact World.block_lt_of_cell? w _ hc
theorem Tu.cell {a : Addr} {v : Value} (k : Tu S w w') (h : w.cell? a = some v) (hs : ¬ S a.block) : w'.cell? a = some v := by
  rw [World.cell?_of_block (w := w) (k.block a.block (World.block_lt_of_cell? w _ h) hs)]; exact h
theorem InAt.tu {l : List Nat} (h : InAt w ao l) (k : Tu S w w') (hs : l ≠ [] → ∀ a, ao = some a → ¬ S a.block) : InAt w' ao l := fun i hi => by
  obtain ⟨b, o, e, hc⟩ := h i hi
  exact ⟨b, o, e, k.cell hc (show ¬ S b from hs (by intro e; subst e; cases hi) _ e)⟩
theorem PrAt.tu {l : List (Nat × Nat)} (h : PrAt w ao l) (k : Tu S w w') (hs : l ≠ [] → ∀ a, ao = some a → ¬ S a.block) : PrAt w' ao l := fun i hi => by
  obtain ⟨b, o, e, hc, hd⟩ := h i hi
  have := hs (by intro e; subst e; cases hi) _ e
  exact ⟨b, o, e, k.cell hc this, k.cell hd this⟩
theorem PsAt.tuS {l : List (Nat × Nat)} (h : PsAt w ao l) (k : Tu S w w') (hs : l ≠ [] → ∀ a, ao = some a → ¬ S a.block) : PsAt w' ao l := fun i hi => by
  obtain ⟨b, o, e, hc⟩ := h i hi
  exact ⟨b, o, e, fun j v hv => k.cell (hc j v hv) (show ¬ S b from hs (by intro e; subst e; cases hi) _ e)⟩
theorem NsAt.tuS {l : List Nat} (h : NsAt w ao l) (k : Tu S w w') (hs : l ≠ [] → ∀ a, ao = some a → ¬ S a.block) : NsAt w' ao l := fun i hi => by
  obtain ⟨b, o, e, hc⟩ := h i hi
  exact ⟨b, o, e, fun j v hv => k.cell (hc j v hv) (show ¬ S b from hs (by intro e; subst e; cases hi) _ e)⟩
theorem InAt.to {l : List Nat} (h : InAt w ao l) (hb : Below w.heap.size w w') : InAt w' ao l := h.tu (S := fun _ => False) (.new hb) (fun _ _ _ h => h)
theorem PrAt.to {l : List (Nat × Nat)} (h : PrAt w ao l) (hb : Below w.heap.size w w') : PrAt w' ao l := h.tu (S := fun _ => False) (.new hb) (fun _ _ _ h => h)
theorem InAt.tail {x : Nat} {l : List Nat} {b o : Nat} (h : InAt w (some ⟨b, o, none⟩) (x :: l)) : InAt w (some ⟨b, o + 1, none⟩) l := fun k hk => by
  obtain ⟨b', o', e, hc⟩ := h (k + 1) (by simpa using hk)
  cases e
  exact ⟨b, o + 1, rfl, by rw [show o + 1 + k = o + (k + 1) by omega]; simpa using hc⟩
theorem InAt.ptr {l : List Nat} (h : InAt w ao l) (h0 : l ≠ []) : ∃ b o, ao = some ⟨b, o, none⟩ := by
  obtain ⟨b, o, e, _⟩ := h 0 (List.length_pos_iff.2 h0)
  exact ⟨b, o, e⟩
def jsl (j : Jn) (ao so co : Option Addr) (x : Nat) : Prop := (j.ah ≠ [] ∧ ∃ a, ao = some a ∧ a.block = x) ∨ (j.m.sg ≠ [] ∧ ∃ a, so = some a ∧ a.block = x) ∨ (j.m.ck ≠ [] ∧ ∃ a, co = some a ∧ a.block = x)
end
structure JnF (j : Jn) : Prop where
  o : j.c + j.ah.length < 18446744073709551616
  ah : ∀ i ∈ j.ah, i < 64
  ahl : j.ah.length ≤ 131072
  sy : j.sy < 18446744073709551616
  os : j.os < 18446744073709551616
  ap : j.ap ≤ 1000000
  rows : 4 ≤ j.rows ∧ j.rows ≤ 32
  pl : j.m.pl ≤ 1
  sgl : j.m.sg.length ≤ 400
  ckl : j.m.ck.length ≤ 400
def jcs (gp : Nat) (j : Jn) (ao : Option Addr) (ac : Nat) (so : Option Addr) (sc : Nat) (co : Option Addr) (cc : Nat) : Array Value :=
  #[.pointer (some ⟨gp, 0, none⟩), .int .i64 (j.rows : Int), .int .u64 (j.c : Int), .slice ao j.ah.length ac, .int .u64 (j.sy : Int), .int .u64 (j.os : Int), .int .u64 (j.m.ep : Int), .int .u8 (j.m.pl : Int), .slice so j.m.sg.length sc, .slice co j.m.ck.length cc, .int .i64 (j.ap : Int), .bool j.br]
structure JnC (S : Nat → Prop) (w : World) (gj gp : Nat) (j : Jn) (ao : Option Addr) (ac : Nat) (so : Option Addr) (sc : Nat) (co : Option Addr) (cc : Nat) : Prop where
  blk : Cells w gj 69 (jcs gp j ao ac so sc co cc)
  fit : JnF j
  ins : InAt w ao j.ah
  man : MfAt w j.m so co
  cap : j.ah.length ≤ ac ∧ ac ≤ maxLen
  scap : j.m.sg.length ≤ sc ∧ sc ≤ maxLen
  far : ∀ x, (x = gj ∨ jsl j ao so co x) → x ≠ gp ∧ ¬ S x
  nj : ∀ x, jsl j ao so co x → x ≠ gj
section
variable {S T : Nat → Prop} {w w' : World} {gj gp ac sc cc : Nat} {j : Jn} {ao so co : Option Addr}
theorem JnC.lt (h : JnC S w gj gp j ao ac so sc co cc) {x : Nat} (hx : x = gj ∨ jsl j ao so co x) : x < w.heap.size := by
  rcases hx with rfl | ⟨h0, a, e, rfl⟩ | ⟨h0, a, e, rfl⟩ | ⟨h0, a, e, rfl⟩
  · exact h.blk.lt
  · exact h.ins.lt h0 a e
  · exact h.man.ps.lt h0 a e
  · exact h.man.ns.lt h0 a e
theorem JnC.tu (h : JnC S w gj gp j ao ac so sc co cc) (k : Tu T w w') (hT : ∀ x, (x = gj ∨ jsl j ao so co x) → ¬ T x) : JnC S w' gj gp j ao ac so sc co cc :=
  ⟨h.blk.tu k (hT _ (.inl rfl)), h.fit, h.ins.tu k fun h0 a e => hT _ (.inr (.inl ⟨h0, a, e, rfl⟩)),
    ⟨h.man.fit, h.man.ps.tuS k fun h0 a e => hT _ (.inr (.inr (.inl ⟨h0, a, e, rfl⟩))), h.man.ns.tuS k fun h0 a e => hT _ (.inr (.inr (.inr ⟨h0, a, e, rfl⟩))), h.man.l1, h.man.l2⟩, h.cap, h.scap, h.far, h.nj⟩
theorem JnC.less {S' : Nat → Prop} (h : JnC S w gj gp j ao ac so sc co cc) (hs : ∀ x, (x = gj ∨ jsl j ao so co x) → S' x → S x) : JnC S' w gj gp j ao ac so sc co cc :=
  ⟨h.blk, h.fit, h.ins, h.man, h.cap, h.scap, fun x hx => ⟨(h.far x hx).1, fun hS => (h.far x hx).2 (hs x hx hS)⟩, h.nj⟩
end
def PJ (V : Nat → Prop) (w : World) (gp q : Nat) (dv : Value) (ko : Option Addr) (kc : Nat) (p : Pw) : Prop :=
  ∃ S, PwC S w gp dv q ko kc p ∧ V gp ∧ (∀ x, S x → V x) ∧ (∀ a, ko = some a → p.ks ≠ [] → V a.block) ∧ ∀ x, V x → x < w.heap.size
structure JX (V : Nat → Prop) (w : World) (gj gp q : Nat) (dv : Value) (ko : Option Addr) (kc : Nat) (p : Pw) (j : Jn) (S : Nat → Prop) (ao : Option Addr) (ac : Nat) (so : Option Addr) (sc : Nat) (co : Option Addr) (cc : Nat) : Prop where
  pw : PwC S w gp dv q ko kc p
  jn : JnC S w gj gp j ao ac so sc co cc
  vp : V gp
  vs : ∀ x, S x → V x
  vk : ∀ a, ko = some a → p.ks ≠ [] → V a.block ∧ ∀ x, (x = gj ∨ jsl j ao so co x) → a.block ≠ x
  vj : ∀ x, (x = gj ∨ jsl j ao so co x) → V x
  lt : ∀ x, V x → x < w.heap.size
def JC (V : Nat → Prop) (w : World) (gj gp q : Nat) (dv : Value) (ko : Option Addr) (kc : Nat) (p : Pw) (j : Jn) : Prop :=
  ∃ S ao ac so sc co cc, JX V w gj gp q dv ko kc p j S ao ac so sc co cc
structure JTo (V : Nat → Prop) (w : World) (V' : Nat → Prop) (w' : World) : Prop where
  more : ∀ x, V' x → V x ∨ w.heap.size ≤ x
  tu : Tu V w w'
section
variable {V V1 V2 T : Nat → Prop} {w w1 w2 : World} {gj gp q kc : Nat} {dv : Value} {ko : Option Addr} {p p' : Pw} {j j' : Jn}
theorem JTo.refl (V : Nat → Prop) (w : World) : JTo V w V w := ⟨fun x h => .inl h, Tu.refl _ _⟩
theorem JTo.trans (h : JTo V w V1 w1) (k : JTo V1 w1 V2 w2) : JTo V w V2 w2 :=
  ⟨fun x hx => by
    rcases k.more x hx with h1 | h1
    · exact h.more x h1
    · exact .inr (Nat.le_trans h.tu.size h1),
   h.tu.trans k.tu fun x hx h1 => (h.more x h1).resolve_right (by omega)⟩
theorem JTo.new (hb : Below w.heap.size w w1) : JTo V w V w1 := ⟨fun x h => .inl h, .new hb⟩
theorem PJ.lt (h : PJ V w gp q dv ko kc p) : ∀ x, V x → x < w.heap.size := by obtain ⟨S, _, _, _, _, h⟩ := h; exact h
theorem JC.lt (h : JC V w gj gp q dv ko kc p j) : ∀ x, V x → x < w.heap.size := by obtain ⟨S, ao, ac, so, sc, co, cc, h⟩ := h; exact h.lt
theorem PJ.tu (h : PJ V w gp q dv ko kc p) (k : Tu T w w1) (hT : ∀ x, V x → ¬ T x) : PJ V w1 gp q dv ko kc p := by
  obtain ⟨S, h1, h2, h3, h4, h5⟩ := h
  exact ⟨S, h1.tu k (hT _ h2) (fun a e hn => hT _ (h4 a e hn)) (fun x _ hx => hT _ (h3 x hx)), h2, h3, h4, fun x hx => Nat.lt_of_lt_of_le (h5 x hx) k.size⟩
theorem JC.tu (h : JC V w gj gp q dv ko kc p j) (k : Tu T w w1) (hT : ∀ x, V x → ¬ T x) : JC V w1 gj gp q dv ko kc p j := by
  obtain ⟨S, ao, ac, so, sc, co, cc, ⟨h1, h0, h2, h3, h4, h6, h5⟩⟩ := h
  exact ⟨S, ao, ac, so, sc, co, cc, ⟨h1.tu k (hT _ h2) (fun a e hn => hT _ (h4 a e hn).1) (fun x _ hx => hT _ (h3 x hx)), h0.tu k (fun x hx => hT _ (h6 x hx)), h2, h3, h4, h6, fun x hx => Nat.lt_of_lt_of_le (h5 x hx) k.size⟩⟩
theorem PJ.new (h : PJ V w gp q dv ko kc p) (hb : Below w.heap.size w w1) : PJ V w1 gp q dv ko kc p := h.tu (T := fun _ => False) (.new hb) (fun _ _ h => h)
theorem JC.new (h : JC V w gj gp q dv ko kc p j) (hb : Below w.heap.size w w1) : JC V w1 gj gp q dv ko kc p j := h.tu (T := fun _ => False) (.new hb) (fun _ _ h => h)
theorem JC.pj (h : JC V w gj gp q dv ko kc p j) : PJ V w gp q dv ko kc p := by
  obtain ⟨S, ao, ac, so, sc, co, cc, ⟨h1, h0, h2, h3, h4, h6, h5⟩⟩ := h
  exact ⟨S, h1, h2, h3, fun a e hn => (h4 a e hn).1, h5⟩
theorem PwC.wide {S : Nat → Prop} (h : PwC S w gp dv q ko kc p) : PwC (fun x => S x ∨ w.heap.size ≤ x) w gp dv q ko kc p := h.mono fun x hx => ⟨.inl, fun k => k.resolve_right (by omega)⟩
theorem PwC.trim {S : Nat → Prop} (h : PwC S w gp dv q ko kc p) : PwC (fun x => S x ∧ x < w.heap.size) w gp dv q ko kc p := h.mono fun x hx => ⟨fun k => ⟨k, hx⟩, And.left⟩
theorem PJ.open (h : PJ V w gp q dv ko kc p) : ∃ S, PwC S w gp dv q ko kc p ∧ (∀ x, w.heap.size ≤ x → S x) ∧ ∀ w1 p', PwC S w1 gp dv q ko kc p' → p'.ks = p.ks → Tu (fun x => x = gp ∨ S x) w w1 → ∃ V', PJ V' w1 gp q dv ko kc p' ∧ JTo V w V' w1 := by
  obtain ⟨S, h1, h2, h3, h4, h5⟩ := h
  refine ⟨_, h1.wide, fun x hx => .inr hx, fun w1 p' hp hk ht => ⟨fun x => V x ∨ (w.heap.size ≤ x ∧ x < w1.heap.size), ⟨_, hp.trim, .inl h2, ?_, fun a e hn => .inl (h4 a e (by rw [← hk]; exact hn)), ?_⟩, ⟨fun x hx => hx.imp id And.left, ?_⟩⟩⟩
  · rintro x ⟨hx | hx, hl⟩
    · exact .inl (h3 x hx)
    · exact .inr ⟨hx, hl⟩
  · rintro x (hx | hx)
    · exact Nat.lt_of_lt_of_le (h5 x hx) ht.size
    · exact hx.2
  · refine ht.mono fun x hx hs => ?_
    rcases hs with rfl | hs | hs
    · exact h2
    · exact h3 x hs
    · omega
theorem JX.turn {S : Nat → Prop} {ao2 so2 co2 : Option Addr} {ac2 sc2 cc2 : Nat} (h : JX V w gj gp q dv ko kc p j S ao2 ac2 so2 sc2 co2 cc2) {ao : Option Addr} {ac : Nat} {so : Option Addr} {sc : Nat} {co : Option Addr} {cc : Nat} (k : Tu (fun x => x = gj) w w1)
    (hc : Cells w1 gj 69 (jcs gp j' ao ac so sc co cc)) (hf : JnF j') (hi : InAt w1 ao j'.ah) (hm : MfAt w1 j'.m so co) (h1 : j'.ah.length ≤ ac ∧ ac ≤ maxLen) (h2 : j'.m.sg.length ≤ sc ∧ sc ≤ maxLen)
    (hs : ∀ x, jsl j' ao so co x → jsl j ao2 so2 co2 x ∨ (w.heap.size ≤ x ∧ x < w1.heap.size)) : ∃ V', JC V' w1 gj gp q dv ko kc p j' ∧ JTo V w V' w1 := by
  obtain ⟨g1, g0, g2, g3, g4, g6, g5⟩ := h
  have hgj := g0.far gj (.inl rfl)
  have hlt := g0.blk.lt
  have hS : ∀ x, S x → x < w.heap.size := fun x hx => g5 x (g3 x hx)
  refine ⟨fun x => V x ∨ (w.heap.size ≤ x ∧ x < w1.heap.size), ⟨S, ao, ac, so, sc, co, cc, ⟨g1.tu k (fun e => hgj.1 e.symm) (fun a e hn => (g4 a e hn).2 gj (.inl rfl)) (fun x _ hx e => hgj.2 (e ▸ hx)), ⟨hc, hf, hi, hm, h1, h2, fun x hx => ?_, fun x hx => ?_⟩, .inl g2, fun x hx => .inl (g3 x hx), fun a e hn => ⟨.inl (g4 a e hn).1, fun x hx => (by
      rcases hx with rfl | hx
      · exact (g4 a e hn).2 _ (.inl rfl)
      · rcases hs x hx with hx | hx
        · exact (g4 a e hn).2 x (.inr hx)
        · have := (g1.kf a e hn).2; omega)⟩, fun x hx => ?_, ?_⟩⟩, ⟨fun x hx => hx.imp id And.left, k.mono fun x _ e => e ▸ g6 gj (.inl rfl)⟩⟩
  · rcases hx with rfl | hx
    · exact hgj
    · rcases hs x hx with hx | hx
      · exact g0.far x (.inr hx)
      · have := g1.lt
        exact ⟨by omega, fun h => by have := hS x h; omega⟩
  · rcases hs x hx with hx | hx
    · exact g0.nj x hx
    · omega
  · rcases hx with rfl | hx
    · exact .inl (g6 _ (.inl rfl))
    · rcases hs x hx with hx | hx
      · exact .inl (g6 x (.inr hx))
      · exact .inr hx
  · rintro x (hx | hx)
    · exact Nat.lt_of_lt_of_le (g5 x hx) k.size
    · exact hx.2
theorem JX.cell {S : Nat → Prop} {ao so co : Option Addr} {ac sc cc : Nat} (h : JX V w gj gp q dv ko kc p j S ao ac so sc co cc) (k : w.grownBy w1 (some gj)) (hc : Cells w1 gj 69 (jcs gp j' ao ac so sc co cc)) (hf : JnF j') (e1 : j'.ah = j.ah) (e2 : j'.m = j.m) : ∃ V', JC V' w1 gj gp q dv ko kc p j' ∧ JTo V w V' w1 := by
  have kt : Tu (fun x => x = gj) w w1 := Tu.of_same k
  have hn : ∀ x, jsl j ao so co x → x ≠ gj := h.jn.nj
  have hsl : ∀ x, jsl j' ao so co x → jsl j ao so co x := fun x hx => by unfold jsl at hx ⊢; rwa [e1, e2] at hx
  refine h.turn kt hc hf ?_ ?_ (by rw [e1]; exact h.jn.cap) (by rw [e2]; exact h.jn.scap) fun x hx => .inl (hsl x hx)
  · rw [e1]; exact h.jn.ins.tu kt fun h0 a e => hn _ (.inl ⟨h0, a, e, rfl⟩)
  · rw [e2]; exact ⟨h.jn.man.fit, h.jn.man.ps.tuS kt fun h0 a e => hn _ (.inr (.inl ⟨h0, a, e, rfl⟩)), h.jn.man.ns.tuS kt fun h0 a e => hn _ (.inr (.inr ⟨h0, a, e, rfl⟩)), h.jn.man.l1, h.jn.man.l2⟩
end
end Go.Proofs.YtgeaacabpnepmaaGreatDoor
