/- The document's power: Blow, Read, List. -/
import Derived.Test.YtacgmadgkmcmoaaGreatDoorPk
namespace Go.Proofs.YtacgmadgkmcmoaaGreatDoor
open Go.RowKit
set_option linter.unusedVariables false
set_option linter.unusedSimpArgs false
set_option maxRecDepth 100000

/-- The document's power in block h: its disk, the fuse, the numbers to keep, the count, whether it is off. -/
def qcs (gr : Nat) (ko : Option Addr) (kc : Nat) (p : Pw) : Array Value := #[.pointer (some ⟨gr, 0, none⟩), .int .i64 p.fu, .slice ko p.ks.length kc, .int .i64 p.n, .bool p.off]
structure QwC (S : Nat → Prop) (w : World) (h gr q : Nat) (ko : Option Addr) (kc : Nat) (p : Pw) : Prop where
  blk : Cells w h 54 (qcs gr ko kc p)
  ks : Ints w ko p.ks
  kl : p.ks.length ≤ 20
  kf : ∀ a, ko = some a → p.ks ≠ [] → (¬ S a.block ∧ a.block ≠ h) ∧ a.block < w.heap.size
  ng : ¬ S h
  rk : RkS S w (.pointer (some ⟨gr, 0, none⟩)) q p.E
section
variable {S S' T : Nat → Prop} {w w' : World} {h gr q kc : Nat} {ko : Option Addr} {p p' : Pw}
theorem QwC.mono (k : QwC S w h gr q ko kc p) (hs : ∀ x, x < w.heap.size → (S x ↔ S' x)) : QwC S' w h gr q ko kc p :=
  ⟨k.blk, k.ks, k.kl, fun a e hn => by
    have := k.kf a e hn
    exact ⟨⟨fun hx => this.1.1 ((hs _ this.2).2 hx), this.1.2⟩, this.2⟩, fun hx => k.ng ((hs _ k.blk.lt).2 hx), k.rk.mono fun x hx hS => (hs x hx).1 hS⟩
theorem ints_if {ao : Option Addr} {ks : List Int} (hi : Ints w ao ks) (k : Tu T w w') (hk : ∀ a, ao = some a → ks ≠ [] → ¬ T a.block) : Ints w' ao ks := by
  by_cases h0 : ks = []
  · intro j hj; rw [h0] at hj; cases hj
  · exact hi.tu k fun a e => hk a e h0
theorem QwC.turn (k : QwC S w h gr q ko kc p) (hk : p'.ks = p.ks) (ht : Tu T w w') (hT : ∀ x, x < w.heap.size → T x → x = h ∨ S x)
    (hc : Cells w' h 54 (qcs gr ko kc p')) (hd : RkS S w' (.pointer (some ⟨gr, 0, none⟩)) q p'.E) : QwC S w' h gr q ko kc p' := by
  refine ⟨hc, ?_, hk ▸ k.kl, fun a e hn => ?_, k.ng, hd⟩
  · rw [hk]
    exact ints_if k.ks ht (fun a e h0 ht => by
      have := k.kf a e h0
      rcases hT _ this.2 ht with e | e
      · exact this.1.2 e
      · exact this.1.1 e)
  · rw [hk] at hn
    exact ⟨(k.kf a e hn).1, Nat.lt_of_lt_of_le (k.kf a e hn).2 ht.size⟩
theorem QwC.tu (k : QwC S w h gr q ko kc p) (ht : Tu T w w') (hg : ¬ T h) (hk : ∀ a, ko = some a → p.ks ≠ [] → ¬ T a.block) (hs : ∀ x, x < w.heap.size → S x → ¬ T x) : QwC S w' h gr q ko kc p :=
  ⟨k.blk.tu ht hg, ints_if k.ks ht hk, k.kl, fun a e hn => ⟨(k.kf a e hn).1, Nat.lt_of_lt_of_le (k.kf a e hn).2 ht.size⟩, k.ng, k.rk.tu ht hs⟩
theorem QwC.new (k : QwC S w h gr q ko kc p) (hb : Below w.heap.size w w') : QwC S w' h gr q ko kc p :=
  k.tu (T := fun _ => False) (.new hb) (fun h => h) (fun _ _ _ h => h) (fun _ _ _ h => h)
theorem QwC.c0 (k : QwC S w h gr q ko kc p) : w.cell? ⟨h, 0, none⟩ = some (.pointer (some ⟨gr, 0, none⟩)) := k.blk.cell 0
theorem QwC.c1 (k : QwC S w h gr q ko kc p) : w.cell? ⟨h, 1, none⟩ = some (.int .i64 p.fu) := k.blk.cell 1
theorem QwC.c2 (k : QwC S w h gr q ko kc p) : w.cell? ⟨h, 2, none⟩ = some (.slice ko p.ks.length kc) := k.blk.cell 2
theorem QwC.c3 (k : QwC S w h gr q ko kc p) : w.cell? ⟨h, 3, none⟩ = some (.int .i64 p.n) := k.blk.cell 3
theorem QwC.c4 (k : QwC S w h gr q ko kc p) : w.cell? ⟨h, 4, none⟩ = some (.bool p.off) := k.blk.cell 4
end
set_option maxHeartbeats 2000000 in
theorem rblow_c {S : Nat → Prop} {h gr q : Nat} {kc : Nat} {ko : Option Addr} {p : Pw} (w : World) (k : QwC S w h gr q ko kc p) :
    Calls Tryz.prog 23 #[.pointer (some ⟨h, 0, none⟩)] w fun R w' => R = .returned (.tuple #[]) ∧ QwC S w' h gr q ko kc p.blow ∧ Tu (fun x => x = h ∨ S x) w w' := by
  have hnot : ∀ (x : Bool) (w : World), (Op.unary .not (.bool x)).run Tryz.prog w = .ok (.bool (!x)) w := fun _ _ => rfl
  have c4 := k.c4
  have K := Lib.hid k
  clear k
  cases hz : p.off
  rotate_left
  · rw [blow_off hz]
    rw [hz] at c4
    clear hz
    go_enter Tryz.func23, Tryz.ntmps23
    go_wp2
    go_end0
    exact ⟨rfl, K.out, Tu.refl _ w⟩
  · rw [blow_on hz]
    rw [hz] at c4
    have HZ := Lib.hid hz
    clear hz
    go_enter Tryz.func23, Tryz.ntmps23
    go_upto_region 1 with fail
    have K1 := Lib.hid (K.out.new (Below.refl w.heap.size w).drew)
    have T0 : Hid (Tu (fun x => x = h ∨ S x) w w.drew) := (Tu.refl _ w).draw
    clear c4
    generalize hwd : w.drew = wd at *
    have l0 : ∀ W, W = wd → W.cell? ⟨h, 0, none⟩ = some (.pointer (some ⟨gr, 0, none⟩)) := fun W e => e ▸ K1.out.c0
    have l2 : ∀ W, W = wd → W.cell? ⟨h, 2, none⟩ = some (.slice ko p.ks.length kc) := fun W e => e ▸ K1.out.c2
    have hs0 : wd = wd := rfl
    refine wp_region_till (S := fun w' => w' = wd) (by kernel_rfl) ?_
    rw [hwd]
    clear hwd
    refine wpTill_take (i := 0) (v := ?va0) rfl (by kernel_rfl) (fun _ _ _ h => h) (Or.inl ⟨by rfl, ?hya0⟩) hs0 ?resta0
    case hya0 => (intro W hW; (try dsimp only at hW); go_simp; try with_reducible rfl)
    simp only [Act.put, List.setIfInBounds_toArray, List.set_cons_zero, List.set_cons_succ, List.getElem_toArray, List.getElem_cons_succ, List.getElem_cons_zero]
    refine wpTill_take (i := 1) (v := ?va1) rfl (by kernel_rfl) (fun _ _ _ h => h) (Or.inl ⟨by rfl, ?hya1⟩) hs0 ?resta1
    case hya1 => (intro W hW; (try dsimp only at hW); go_simp; try with_reducible rfl)
    simp only [Act.put, List.setIfInBounds_toArray, List.set_cons_zero, List.set_cons_succ, List.getElem_toArray, List.getElem_cons_succ, List.getElem_cons_zero]
    refine wpTill_take (i := 2) (v := ?va2) rfl (by kernel_rfl) (fun _ _ _ h => h) (Or.inl ⟨by rfl, ?hya2⟩) hs0 ?resta2
    case hya2 => (intro W hW; (try dsimp only at hW); go_simp; try with_reducible rfl)
    simp only [Act.put, List.setIfInBounds_toArray, List.set_cons_zero, List.set_cons_succ, List.getElem_toArray, List.getElem_cons_succ, List.getElem_cons_zero]
    refine wpTill_take (i := 3) (v := ?va3) rfl (by kernel_rfl) (fun _ _ _ h => h) (Or.inl ⟨by rfl, ?hya3⟩) hs0 ?resta3
    case hya3 => (intro W hW; (try dsimp only at hW); go_simp; try with_reducible rfl)
    simp only [Act.put, List.setIfInBounds_toArray, List.set_cons_zero, List.set_cons_succ, List.getElem_toArray, List.getElem_cons_succ, List.getElem_cons_zero]
    refine wpTill_take (i := 4) (v := ?va4) rfl (by kernel_rfl) (fun _ _ _ h => h) (Or.inl ⟨by rfl, ?hya4⟩) hs0 ?resta4
    case hya4 => (intro W hW; (try dsimp only at hW); go_simp; try with_reducible rfl)
    simp only [Act.put, List.setIfInBounds_toArray, List.set_cons_zero, List.set_cons_succ, List.getElem_toArray, List.getElem_cons_succ, List.getElem_cons_zero]
    refine wpTill_take (i := 5) (v := ?va5) rfl (by kernel_rfl) (fun _ _ _ h => h) (Or.inl ⟨by rfl, ?hya5⟩) hs0 ?resta5
    case hya5 => (intro W hW; (try dsimp only at hW); go_simp; try with_reducible rfl)
    simp only [Act.put, List.setIfInBounds_toArray, List.set_cons_zero, List.set_cons_succ, List.getElem_toArray, List.getElem_cons_succ, List.getElem_cons_zero]
    refine wpTill_take (i := 6) (v := ?va6) rfl (by kernel_rfl) (fun _ _ _ h => h) (Or.inl ⟨by rfl, ?hya6⟩) hs0 ?resta6
    case hya6 => (intro W hW; (try dsimp only at hW); go_simp; try with_reducible rfl)
    simp only [Act.put, List.setIfInBounds_toArray, List.set_cons_zero, List.set_cons_succ, List.getElem_toArray, List.getElem_cons_succ, List.getElem_cons_zero]
    refine wpTill_take (i := 7) (v := ?va7) rfl (by kernel_rfl) (fun _ _ _ h => h) (Or.inl ⟨by rfl, ?hya7⟩) hs0 ?resta7
    case hya7 => (intro W hW; (try dsimp only at hW); go_simp; try with_reducible rfl)
    simp only [Act.put, List.setIfInBounds_toArray, List.set_cons_zero, List.set_cons_succ, List.getElem_toArray, List.getElem_cons_succ, List.getElem_cons_zero]
    obtain ⟨ro, rc, hrk⟩ := K1.out.rk.of
    refine wpTill_run (i := 8) (by kernel_rfl) rfl hs0 (fun K' hK => ?_)
    go_simp
    go_at_call 69
    refine (rcrash_c hrk K1.out.ks (Nat.le_trans K1.out.kl (by decide)) (fun a e h0 => (K1.out.kf a e h0).1.1)).mono ?_
    rintro R w2 ⟨rfl, hr2, ht2⟩
    have R2 := Lib.hid hr2
    have T2 := Lib.hid ht2
    refine hK _ _ ?_
    clear hK K' hr2 ht2 l0 l2 hrk
    refine wpTill_done (by kernel_rfl) ?_
    have hc2 := K1.out.blk.tu T2.out K1.out.ng
    have c4 : w2.cell? ⟨h, 4, none⟩ = some (.bool p.off) := hc2.cell 4
    have z4 := hc2.frozen 4
    have C2 := Lib.hid hc2
    clear hc2
    go_wp2
    go_end0
    have ht3 : Tu (fun x => x = h ∨ S x) w2 (w2.setCell ⟨h, 4, none⟩ (.bool true)) := (tu_set w2 h 4 _).mono (fun x _ e => .inl e)
    have ht13 : Tu (fun x => x = h ∨ S x) wd (w2.setCell ⟨h, 4, none⟩ (.bool true)) := (T2.out.mono (fun x _ e => .inr e)).trans ht3 (fun _ _ h => h)
    refine ⟨rfl, ?_, T0.out.trans ht13 (fun _ _ h => h)⟩
    refine K1.out.turn rfl ht13 (fun x _ h => h) ?_ (R2.out.tu (tu_set w2 h 4 _) (fun x _ hS e => K1.out.ng (e ▸ hS)))
    exact C2.out.set 4 _
theorem rpread_c {S : Nat → Prop} {h gr q : Nat} {kc : Nat} {ko : Option Addr} {p : Pw} (n : List UInt8) (w : World) (k : QwC S w h gr q ko kc p) (hn : n.length ≤ maxLen) :
    Calls Tryz.prog 73 #[.pointer (some ⟨h, 0, none⟩), .string (str n)] w fun R w' => R = .returned (.tuple #[.string (str (p.rd n)), .int .i64 (p.rdc n : Nat)]) ∧ w = w' := by
  have c0 := k.c0
  have c4 := k.c4
  obtain ⟨ro, rc, hrk⟩ := k.rk.of
  have K := Lib.hid hrk
  have HN := Lib.hid hn
  clear k hrk hn
  cases hz : p.off
  · have hrd : p.rd n = rd p.E n := by unfold Pw.rd; rw [hz]; rfl
    have hrc : p.rdc n = eFind p.E n := by unfold Pw.rdc; rw [hz]; rfl
    rw [hrd, hrc]
    rw [hz] at c4
    clear hrd hrc hz
    go_enter Tryz.func73, Tryz.ntmps73
    go_wp2_with fail
    refine (rread_c K.out n HN.out).mono ?_
    rintro R w1 ⟨rfl, rfl⟩
    go_wp2
    go_ret2
    exact ⟨rfl, rfl⟩
  · have hrd : p.rd n = [] := by unfold Pw.rd; rw [hz]; rfl
    have hrc : p.rdc n = 8 := by unfold Pw.rdc; rw [hz]; rfl
    rw [hrd, hrc, str_nil]
    rw [hz] at c4
    clear hrd hrc hz
    go_enter Tryz.func73, Tryz.ntmps73
    go_wp2
    go_ret2
    exact ⟨rfl, rfl⟩
theorem rplist_c {S : Nat → Prop} {h gr q : Nat} {kc : Nat} {ko : Option Addr} {p : Pw} (w : World) (k : QwC S w h gr q ko kc p) :
    Calls Tryz.prog 60 #[.pointer (some ⟨h, 0, none⟩)] w fun R w' => ∃ u, R = .returned u ∧ Lst w' w.heap.size u p.names ∧ Below w.heap.size w w' := by
  have c0 := k.c0
  have c4 := k.c4
  obtain ⟨ro, rc, hrk⟩ := k.rk.of
  have K := Lib.hid hrk
  clear k hrk
  cases hz : p.off
  · have hnm : p.names = p.E.map Ent.nm := by unfold Pw.names; rw [hz]; rfl
    rw [hnm]
    rw [hz] at c4
    clear hnm hz
    go_enter Tryz.func60, Tryz.ntmps60
    go_wp2_with fail
    refine (rlist_c K.out).mono ?_
    rintro R w1 ⟨u, rfl, hl, hb⟩
    have HL := Lib.hid hl
    have HB := Lib.hid hb
    clear hb c0 c4 hl
    go_wp2
    go_ret
    exact ⟨u, rfl, HL.out, HB.out⟩
  · have hnm : p.names = [] := by unfold Pw.names; rw [hz]; rfl
    rw [hnm]
    rw [hz] at c4
    clear hnm hz
    go_enter Tryz.func60, Tryz.ntmps60
    go_wp2
    go_ret
    exact ⟨_, rfl, World.ownsRow_nil _ _ _ _, Below.refl _ w⟩
end Go.Proofs.YtacgmadgkmcmoaaGreatDoor
