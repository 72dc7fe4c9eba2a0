/- Texts of the walk. -/
import Derived.Test.YtgeaacabpnepmaaGreatDoorDg8
import Derived.BigQuiet
import Derived.WalkSmall
/- tear and Crash. -/
namespace Go.Proofs.YtgeaacabpnepmaaGreatDoor
open Go.RowKit Go.Shelf
set_option linter.unusedVariables false
set_option linter.unusedSimpArgs false
set_option maxRecDepth 100000

theorem tmod_pos (k m : Int) (hm : 0 < m) (h : 0 ≤ k.tmod m) : (k % m) = k.tmod m := by
  have h1 := Int.tmod_add_mul_tdiv k m
  have h2 : k.tmod m < m := Int.tmod_lt_of_pos k hm
  have h3 : (k.tmod m + m * k.tdiv m) % m = k.tmod m := by rw [Int.add_mul_emod_self_left]; exact Int.emod_eq_of_lt h h2
  rw [h1] at h3
  exact h3
theorem tmod_neg (k m : Int) (hm : 0 < m) (h : k.tmod m < 0) : (k % m) = k.tmod m + m := by
  have h1 := Int.tmod_add_mul_tdiv k m
  have h2 : -m < k.tmod m := Int.lt_tmod_of_pos k hm
  have h3 : (k.tmod m + m + m * (k.tdiv m - 1)) % m = k.tmod m + m := by rw [Int.add_mul_emod_self_left]; exact Int.emod_eq_of_lt (by omega) (by omega)
  have e : k.tmod m + m + m * (k.tdiv m - 1) = k := by rw [Int.mul_sub, Int.mul_one]; omega
  rw [e] at h3
  exact h3
theorem kept_tmod (k : Int) (l s : Nat) (hl : s ≤ l) : (0 ≤ k.tmod ((l - s + 1 : Nat) : Int) ∧ ((kept k (l - s + 1) : Nat) : Int) = k.tmod ((l - s + 1 : Nat) : Int)) ∨ (k.tmod ((l - s + 1 : Nat) : Int) < 0 ∧ ((kept k (l - s + 1) : Nat) : Int) = k.tmod ((l - s + 1 : Nat) : Int) + ((l - s + 1 : Nat) : Int)) := by
  unfold kept
  generalize hm : ((l - s + 1 : Nat) : Int) = m
  have hm0 : 0 < m := by omega
  have h0 : 0 ≤ k % m := Int.emod_nonneg _ (by omega)
  rcases Int.lt_or_le (k.tmod m) 0 with h | h
  · right; rw [tmod_neg k m hm0 h] at h0 ⊢; exact ⟨h, by omega⟩
  · left; rw [tmod_pos k m hm0 h]; exact ⟨h, by omega⟩
def Fil.torn (f : Fil) (k : Int) : Fil := ⟨f.nm, f.g, f.ao, f.cap, f.bs.take (f.su + kept k (f.bs.length - f.su + 1)), f.su + kept k (f.bs.length - f.su + 1)⟩
theorem torn_ent (f : Fil) (k : Int) : (f.torn k).ent = tearE k f.ent := rfl
theorem torn_inn (f : Fil) (k : Int) (x : Nat) (h : (f.torn k).inn x) : f.inn x := by
  rcases h with h | h
  · exact .inl h
  · refine .inr ?_
    have : (Value.slice f.ao (f.torn k).bs.length f.cap).ownBlock = some x := h
    cases hao : f.ao with
    | none => rw [hao] at this; cases this
    | some a => rw [hao] at this; unfold Fil.v; rw [hao]; exact this
theorem row_cut {w : World} {ao : Option Addr} {cap n : Nat} {bs : List UInt8} (h : w.ownsRow 0 5 1 (.slice ao bs.length cap) bs.length (bvs bs)) (hn : n ≤ bs.length) :
    w.ownsRow 0 5 1 (.slice ao n cap) n (bvs (bs.take n)) := by
  have hl : (bvs (bs.take n)).length = n := by rw [bvs_length, List.length_take]; omega
  rcases h.2 with ⟨he, h0⟩ | ⟨g, cap2, cur, he, hb, hg, hnc, hcm, hcs, htk⟩
  · injection he with e1 e2 e3
    have : n = 0 := by omega
    subst this
    subst e1 e3
    exact ⟨by rw [hl], .inl ⟨rfl, rfl⟩⟩
  · injection he with e1 e2 e3
    subst e1 e3
    refine ⟨by rw [hl]; omega, .inr ⟨g, cap, cur, rfl, hb, hg, by omega, hcm, hcs, ?_⟩⟩
    have : bvs (bs.take n) = (bvs bs).take n := by unfold bvs; rw [List.map_take]
    rw [this, ← htk, List.take_take]
    congr 1
    omega
set_option maxHeartbeats 1000000 in
theorem tear_c {f : Fil} (k : Int) (w : World) (h : FilAt w f) (h1 : f.su ≤ f.bs.length) (h2 : f.bs.length ≤ 65536) (hk : -9223372036854775808 ≤ k ∧ k ≤ 9223372036854775807) :
    Calls Tryz.prog 158 #[.pointer (some ⟨f.g, 0, none⟩), .int .i64 k] w fun E w' => E = .returned (.tuple #[]) ∧ FilAt w' (f.torn k) ∧ w.grownBy w' (some f.g) := by
  have c0 : w.cell? ⟨f.g, 0, none⟩ = some (.slice f.ao f.bs.length f.cap) := by rw [h.blk.cell]; rfl
  have c1 : w.cell? ⟨f.g, 1, none⟩ = some (.int .i64 f.su) := by rw [h.blk.cell]; rfl
  have HF := Lib.hid h
  have e1 : IntKind.i64.wrap ((f.bs.length : Int) - (f.su : Int)) = ((f.bs.length - f.su : Nat) : Int) := by rw [IntWalk.i64_in _ (by omega)]; omega
  have e2 : IntKind.i64.wrap (((f.bs.length - f.su : Nat) : Int) + 1) = ((f.bs.length - f.su + 1 : Nat) : Int) := by rw [IntWalk.i64_in _ (by omega)]; omega
  clear h
  have hkt := kept_tmod k f.bs.length f.su h1
  have hkl := kept_le k (f.bs.length - f.su)
  have HT := Lib.hid (show f.torn k = ⟨f.nm, f.g, f.ao, f.cap, f.bs.take (f.su + kept k (f.bs.length - f.su + 1)), f.su + kept k (f.bs.length - f.su + 1)⟩ from rfl)
  obtain ⟨r, hr⟩ : ∃ r, k.tmod ((f.bs.length - f.su + 1 : Nat) : Int) = r := ⟨_, rfl⟩
  rw [hr] at hkt
  generalize kept k (f.bs.length - f.su + 1) = kp at *
  obtain ⟨m, hm⟩ : ∃ m : Nat, f.bs.length - f.su + 1 = m := ⟨_, rfl⟩
  obtain ⟨t0, ht0⟩ : ∃ t0 : Nat, f.bs.length - f.su = t0 := ⟨_, rfl⟩
  have hr2 : -(m : Int) < r ∧ r < (m : Int) := by
    rw [← hr, ← hm]
    exact ⟨Int.lt_tmod_of_pos k (by omega), Int.tmod_lt_of_pos k (by omega)⟩
  rw [ht0] at e1
  rw [hm] at e2 hr hkt
  rw [ht0] at e2
  have e3 : IntKind.i64.wrap (k.tmod (m : Int)) = r := by rw [hr]; exact IntWalk.i64_in _ (by omega)
  have hm0 : (m : Int) ≠ 0 := by omega
  go_enter Tryz.func158, Tryz.ntmps158
  go_wp2_with fail
  go_quiet (fail)
  have hbn : Below w.heap.size w (w.drewN nq) := below_drewN (Below.refl _ w) nq
  have hg0 : w.grownBy (w.drewN nq) none := grown_none hbn
  have c1' : (w.drewN nq).cell? ⟨f.g, 1, none⟩ = some (.int .i64 f.su) := c1
  have hf0 := HF.out.tu (S := fun _ => False) (.new hbn) (fun _ _ h => h)
  generalize w.drewN nq = wd at *
  have f1 := hf0.blk.frozen 1
  have c1 := c1'
  have e4 : IntKind.i64.wrap ((f.su : Int) + (kp : Int)) = ((f.su + kp : Nat) : Int) := by rw [IntWalk.i64_in _ (by omega)]; omega
  have hgs := grown_set wd f.g 1 (.int .i64 ((f.su + kp : Nat) : Int))
  have hblk : Cells (wd.setCell ⟨f.g, 1, none⟩ (.int .i64 ((f.su + kp : Nat) : Int))) f.g 183 #[.slice f.ao f.bs.length f.cap, .int .i64 ((f.su + kp : Nat) : Int)] := hf0.blk.set 1 _
  have hrow := hf0.row.kept hgs (.inr hf0.ne)
  have hsn : f.su + kp ≤ f.bs.length := by omega
  obtain ⟨sn, hsn2⟩ : ∃ sn : Nat, f.su + kp = sn := ⟨_, rfl⟩
  rw [hsn2] at e4 hgs hblk hrow hsn HT
  clear hbn c0 c1' hsn2
  obtain ⟨w2, hw2⟩ : ∃ w2, wd.setCell ⟨f.g, 1, none⟩ (.int .i64 (sn : Int)) = w2 := ⟨_, rfl⟩
  rw [hw2] at hgs hblk hrow
  have HB2 := Lib.hid hblk
  have HR2 := Lib.hid hrow
  have HG2 := Lib.hid hgs
  have HG0 := Lib.hid hg0
  have lf : ∀ W, Below w2.heap.size w2 W → W.cell? ⟨f.g, 0, none⟩ = some (.slice f.ao f.bs.length f.cap) := fun W hW => by rw [(HB2.out.below hW HB2.out.lt).cell]; rfl
  have lq : ∀ W, Below w2.heap.size w2 W → W.cell? ⟨f.g, 1, none⟩ = some (.int .i64 (sn : Int)) := fun W hW => by rw [(HB2.out.below hW HB2.out.lt).cell]; rfl
  have hcap : sn ≤ f.cap := by obtain ⟨_, _, he, hc⟩ := row_form hrow; injection he with e1 e2 e3; omega
  clear hblk hrow hgs hg0 hf0
  rcases hkt with ⟨hr0, hk0⟩ | ⟨hr0, hk0⟩
  · rw [← hk0] at hr
    clear e3 hk0 hr0 hr2
    go_wp2_with fail
    have hs0 := (Below.refl w2.heap.size w2).drew
    generalize hwd : w2.drew = wd2 at *
    refine wp_region_till (S := fun w' => Below w2.heap.size w2 w') (by kernel_rfl) ?_
    rw [hwd]
    clear hwd
    refine wpTill_take (i := 0) (v := ?va0) rfl (by kernel_rfl) (fun _ _ _ h => h) (Or.inl ⟨by rfl, ?hya0⟩) hs0 ?resta0
    case hya0 => (intro W hW; (try dsimp only at hW); go_simp; try with_reducible rfl)
    simp only [Act.put, List.setIfInBounds_toArray, List.set_cons_zero, List.set_cons_succ]
    refine wpTill_take (i := 1) (v := ?va1) rfl (by kernel_rfl) (fun _ _ _ h => h) (Or.inl ⟨by rfl, ?hya1⟩) hs0 ?resta1
    case hya1 => (intro W hW; (try dsimp only at hW); go_simp; try with_reducible rfl)
    simp only [Act.put, List.setIfInBounds_toArray, List.set_cons_zero, List.set_cons_succ]
    refine wpTill_take (i := 2) (v := ?va2) rfl (by kernel_rfl) (fun _ _ _ h => h) (Or.inl ⟨by rfl, ?hya2⟩) hs0 ?resta2
    case hya2 => (intro W hW; (try dsimp only at hW); go_simp; try with_reducible rfl)
    simp only [Act.put, List.setIfInBounds_toArray, List.set_cons_zero, List.set_cons_succ]
    refine wpTill_take (i := 3) (v := ?va3) rfl (by kernel_rfl) (fun _ _ _ h => h) (Or.inl ⟨by rfl, ?hya3⟩) hs0 ?resta3
    case hya3 => (intro W hW; (try dsimp only at hW); go_simp; try with_reducible rfl)
    simp only [Act.put, List.setIfInBounds_toArray, List.set_cons_zero, List.set_cons_succ]
    refine wpTill_take (i := 4) (v := ?va4) rfl (by kernel_rfl) (fun _ _ _ h => h) (Or.inl ⟨by rfl, ?hya4⟩) hs0 ?resta4
    case hya4 => (intro W hW; (try dsimp only at hW); go_simp; try with_reducible rfl)
    simp only [Act.put, List.setIfInBounds_toArray, List.set_cons_zero, List.set_cons_succ]
    refine wpTill_take (i := 5) (v := ?va5) rfl (by kernel_rfl) (fun _ _ _ h => h) (Or.inl ⟨by rfl, ?hya5⟩) hs0 ?resta5
    case hya5 => (intro W hW; (try dsimp only at hW); go_simp; try with_reducible rfl)
    simp only [Act.put, List.setIfInBounds_toArray, List.set_cons_zero, List.set_cons_succ]
    refine wpTill_take (i := 6) (v := ?va6) rfl (by kernel_rfl) (fun _ _ _ h => h) (Or.inl ⟨by rfl, ?hya6⟩) hs0 ?resta6
    case hya6 => (intro W hW; (try dsimp only at hW); go_simp; try with_reducible rfl)
    simp only [Act.put, List.setIfInBounds_toArray, List.set_cons_zero, List.set_cons_succ]
    refine wpTill_take (i := 7) (v := ?va7) rfl (by kernel_rfl) (fun _ _ _ h => h) (Or.inl ⟨by rfl, ?hya7⟩) hs0 ?resta7
    case hya7 => (intro W hW; (try dsimp only at hW); go_simp; try with_reducible rfl)
    simp only [Act.put, List.setIfInBounds_toArray, List.set_cons_zero, List.set_cons_succ]
    refine wpTill_take (i := 8) (v := ?va8) rfl (by kernel_rfl) (fun _ _ _ h => h) (Or.inl ⟨by rfl, ?hya8⟩) hs0 ?resta8
    case hya8 => (intro W hW; (try dsimp only at hW); go_simp; try with_reducible rfl)
    simp only [Act.put, List.setIfInBounds_toArray, List.set_cons_zero, List.set_cons_succ]
    refine wpTill_take (i := 9) (v := ?va9) rfl (by kernel_rfl) (fun _ _ _ h => h) (Or.inl ⟨by rfl, ?hya9⟩) hs0 ?resta9
    case hya9 => (intro W hW; (try dsimp only at hW); go_simp; try with_reducible rfl)
    simp only [Act.put, List.setIfInBounds_toArray, List.set_cons_zero, List.set_cons_succ]
    refine wpTill_take (i := 10) (v := ?va10) rfl (by kernel_rfl) (fun _ _ _ h => h) (Or.inl ⟨by rfl, ?hya10⟩) hs0 ?resta10
    case hya10 => (intro W hW; (try dsimp only at hW); go_simp; try with_reducible rfl)
    simp only [Act.put, List.setIfInBounds_toArray, List.set_cons_zero, List.set_cons_succ]
    refine wpTill_take (i := 11) (v := ?va11) rfl (by kernel_rfl) (fun _ _ _ h => h) (Or.inl ⟨by rfl, ?hya11⟩) hs0 ?resta11
    case hya11 => (intro W hW; (try dsimp only at hW); go_simp; try with_reducible rfl)
    simp only [Act.put, List.setIfInBounds_toArray, List.set_cons_zero, List.set_cons_succ]
    have hb3 := HB2.out.below hs0 HB2.out.lt
    have c3 : wd2.cell? ⟨f.g, 0, none⟩ = some (.slice f.ao f.bs.length f.cap) := by rw [hb3.cell]; rfl
    have f3 := hb3.frozen 0
    have HB3 := Lib.hid hb3
    clear hb3 lf lq
    refine wpTill_run (i := 12) (by kernel_rfl) rfl hs0 (fun K hK => ?_)
    go_simp
    refine hK _ _ ?_
    clear hK K
    refine wpTill_done (by kernel_rfl) ?_
    go_wp2
    go_end0
    have hg4 := grown_set wd2 f.g 0 (.slice f.ao sn f.cap)
    refine ⟨rfl, ?_, ?_⟩
    · rw [HT.out]
      have hl : (f.bs.take sn).length = sn := by rw [List.length_take]; omega
      refine ⟨?_, ?_⟩
      · have := HB3.out.set 0 (.slice f.ao sn f.cap)
        unfold Fil.v
        dsimp only
        rw [hl]
        exact this
      · unfold Fil.v
        dsimp only
        rw [hl]
        have h5 := (row_tu HR2.out (S := fun _ => False) (.new hs0) (fun _ _ h => h))
        exact (row_cut h5 hsn).kept hg4 (.inr (row_unlike (row_cut h5 hsn) HB3.out (by decide)))
    · exact ⟨hg4.os.trans (hs0.os.trans (HG2.out.os.trans HG0.out.os)), hg4.tape.trans (hs0.tape.trans (HG2.out.tape.trans HG0.out.tape)), hg4.output.trans (hs0.output.trans (HG2.out.output.trans HG0.out.output)),
        Nat.le_trans HG0.out.size (Nat.le_trans HG2.out.size (Nat.le_trans hs0.size hg4.size)), fun x hx hne => by
          have h6 := Nat.lt_of_lt_of_le hx HG0.out.size
          have h7 := Nat.lt_of_lt_of_le h6 HG2.out.size
          exact (hg4.block x (Nat.lt_of_lt_of_le h7 hs0.size) hne).trans ((hs0.block x h7).trans ((HG2.out.block x h6 hne).trans (HG0.out.block x hx (by simp))))⟩
  · have e5 : IntKind.i64.wrap (r + (m : Int)) = (kp : Int) := by rw [← hk0]; exact IntWalk.i64_in _ (by omega)
    clear e3 hk0
    go_wp2_with fail
    have hs0 := (Below.refl w2.heap.size w2).drew
    generalize hwd : w2.drew = wd2 at *
    refine wp_region_till (S := fun w' => Below w2.heap.size w2 w') (by kernel_rfl) ?_
    rw [hwd]
    clear hwd
    refine wpTill_take (i := 0) (v := ?vb0) rfl (by kernel_rfl) (fun _ _ _ h => h) (Or.inl ⟨by rfl, ?hyb0⟩) hs0 ?restb0
    case hyb0 => (intro W hW; (try dsimp only at hW); go_simp; try with_reducible rfl)
    simp only [Act.put, List.setIfInBounds_toArray, List.set_cons_zero, List.set_cons_succ]
    refine wpTill_take (i := 1) (v := ?vb1) rfl (by kernel_rfl) (fun _ _ _ h => h) (Or.inl ⟨by rfl, ?hyb1⟩) hs0 ?restb1
    case hyb1 => (intro W hW; (try dsimp only at hW); go_simp; try with_reducible rfl)
    simp only [Act.put, List.setIfInBounds_toArray, List.set_cons_zero, List.set_cons_succ]
    refine wpTill_take (i := 2) (v := ?vb2) rfl (by kernel_rfl) (fun _ _ _ h => h) (Or.inl ⟨by rfl, ?hyb2⟩) hs0 ?restb2
    case hyb2 => (intro W hW; (try dsimp only at hW); go_simp; try with_reducible rfl)
    simp only [Act.put, List.setIfInBounds_toArray, List.set_cons_zero, List.set_cons_succ]
    refine wpTill_take (i := 3) (v := ?vb3) rfl (by kernel_rfl) (fun _ _ _ h => h) (Or.inl ⟨by rfl, ?hyb3⟩) hs0 ?restb3
    case hyb3 => (intro W hW; (try dsimp only at hW); go_simp; try with_reducible rfl)
    simp only [Act.put, List.setIfInBounds_toArray, List.set_cons_zero, List.set_cons_succ]
    refine wpTill_take (i := 4) (v := ?vb4) rfl (by kernel_rfl) (fun _ _ _ h => h) (Or.inl ⟨by rfl, ?hyb4⟩) hs0 ?restb4
    case hyb4 => (intro W hW; (try dsimp only at hW); go_simp; try with_reducible rfl)
    simp only [Act.put, List.setIfInBounds_toArray, List.set_cons_zero, List.set_cons_succ]
    refine wpTill_take (i := 5) (v := ?vb5) rfl (by kernel_rfl) (fun _ _ _ h => h) (Or.inl ⟨by rfl, ?hyb5⟩) hs0 ?restb5
    case hyb5 => (intro W hW; (try dsimp only at hW); go_simp; try with_reducible rfl)
    simp only [Act.put, List.setIfInBounds_toArray, List.set_cons_zero, List.set_cons_succ]
    refine wpTill_take (i := 6) (v := ?vb6) rfl (by kernel_rfl) (fun _ _ _ h => h) (Or.inl ⟨by rfl, ?hyb6⟩) hs0 ?restb6
    case hyb6 => (intro W hW; (try dsimp only at hW); go_simp; try with_reducible rfl)
    simp only [Act.put, List.setIfInBounds_toArray, List.set_cons_zero, List.set_cons_succ]
    refine wpTill_take (i := 7) (v := ?vb7) rfl (by kernel_rfl) (fun _ _ _ h => h) (Or.inl ⟨by rfl, ?hyb7⟩) hs0 ?restb7
    case hyb7 => (intro W hW; (try dsimp only at hW); go_simp; try with_reducible rfl)
    simp only [Act.put, List.setIfInBounds_toArray, List.set_cons_zero, List.set_cons_succ]
    refine wpTill_take (i := 8) (v := ?vb8) rfl (by kernel_rfl) (fun _ _ _ h => h) (Or.inl ⟨by rfl, ?hyb8⟩) hs0 ?restb8
    case hyb8 => (intro W hW; (try dsimp only at hW); go_simp; try with_reducible rfl)
    simp only [Act.put, List.setIfInBounds_toArray, List.set_cons_zero, List.set_cons_succ]
    refine wpTill_take (i := 9) (v := ?vb9) rfl (by kernel_rfl) (fun _ _ _ h => h) (Or.inl ⟨by rfl, ?hyb9⟩) hs0 ?restb9
    case hyb9 => (intro W hW; (try dsimp only at hW); go_simp; try with_reducible rfl)
    simp only [Act.put, List.setIfInBounds_toArray, List.set_cons_zero, List.set_cons_succ]
    refine wpTill_take (i := 10) (v := ?vb10) rfl (by kernel_rfl) (fun _ _ _ h => h) (Or.inl ⟨by rfl, ?hyb10⟩) hs0 ?restb10
    case hyb10 => (intro W hW; (try dsimp only at hW); go_simp; try with_reducible rfl)
    simp only [Act.put, List.setIfInBounds_toArray, List.set_cons_zero, List.set_cons_succ]
    refine wpTill_take (i := 11) (v := ?vb11) rfl (by kernel_rfl) (fun _ _ _ h => h) (Or.inl ⟨by rfl, ?hyb11⟩) hs0 ?restb11
    case hyb11 => (intro W hW; (try dsimp only at hW); go_simp; try with_reducible rfl)
    simp only [Act.put, List.setIfInBounds_toArray, List.set_cons_zero, List.set_cons_succ]
    have hb3 := HB2.out.below hs0 HB2.out.lt
    have c3 : wd2.cell? ⟨f.g, 0, none⟩ = some (.slice f.ao f.bs.length f.cap) := by rw [hb3.cell]; rfl
    have f3 := hb3.frozen 0
    have HB3 := Lib.hid hb3
    clear hb3 lf lq
    refine wpTill_run (i := 12) (by kernel_rfl) rfl hs0 (fun K hK => ?_)
    go_simp
    refine hK _ _ ?_
    clear hK K
    refine wpTill_done (by kernel_rfl) ?_
    go_wp2
    go_end0
    have hg4 := grown_set wd2 f.g 0 (.slice f.ao sn f.cap)
    refine ⟨rfl, ?_, ?_⟩
    · rw [HT.out]
      have hl : (f.bs.take sn).length = sn := by rw [List.length_take]; omega
      refine ⟨?_, ?_⟩
      · have := HB3.out.set 0 (.slice f.ao sn f.cap)
        unfold Fil.v
        dsimp only
        rw [hl]
        exact this
      · unfold Fil.v
        dsimp only
        rw [hl]
        have h5 := (row_tu HR2.out (S := fun _ => False) (.new hs0) (fun _ _ h => h))
        exact (row_cut h5 hsn).kept hg4 (.inr (row_unlike (row_cut h5 hsn) HB3.out (by decide)))
    · exact ⟨hg4.os.trans (hs0.os.trans (HG2.out.os.trans HG0.out.os)), hg4.tape.trans (hs0.tape.trans (HG2.out.tape.trans HG0.out.tape)), hg4.output.trans (hs0.output.trans (HG2.out.output.trans HG0.out.output)),
        Nat.le_trans HG0.out.size (Nat.le_trans HG2.out.size (Nat.le_trans hs0.size hg4.size)), fun x hx hne => by
          have h6 := Nat.lt_of_lt_of_le hx HG0.out.size
          have h7 := Nat.lt_of_lt_of_le h6 HG2.out.size
          exact (hg4.block x (Nat.lt_of_lt_of_le h7 hs0.size) hne).trans ((hs0.block x h7).trans ((HG2.out.block x h6 hne).trans (HG0.out.block x hx (by simp))))⟩
end Go.Proofs.YtgeaacabpnepmaaGreatDoor
