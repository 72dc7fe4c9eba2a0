/- Take, by the program: its contract. Conditions: a text of 2^40 bytes at most. -/
import Derived.Test.YtakejacamkdncaaGreatDoorMf
namespace Go.Proofs.YtakejacamkdncaaGreatDoor
open Go.RowKit
set_option linter.unusedVariables false
set_option linter.unusedSimpArgs false
set_option maxRecDepth 20000
attribute [local go_sem ↓] ld_man st_man

theorem shut_man {W : World} {g : Nat} {cs : Array Value} {T : TypeId} (tmps : Array Value) (e : Int) (fn : Func) (hr : fn.results = #[.cell 2 T, .tmp 3]) (ty : TyA T 4) (h : Cells W g T cs) (hs : cs.size = 4) (h2 : tmps.getD 2 undef = .pointer (some ⟨g, 0, none⟩)) (h3 : tmps.getD 3 undef = .int .i64 e) :
    (results fn tmps).run Tryz.prog W = .ok (.tuple #[.agg cs, .int .i64 e]) W := by
  have hl := run_ldA ty h 0 (by omega)
  have he : ((cs.toList.drop 0).take 4).toArray = cs := by simp [List.take_of_length_le, hs]
  rw [he] at hl
  have h2' : tmps[2]?.getD undef = .pointer (some ⟨g, 0, none⟩) := by simpa using h2
  have h3' : tmps[3]?.getD undef = .int .i64 e := by simpa using h3
  have hl' : (loadVar T ⟨g, 0, none⟩).run Tryz.prog W = .ok (.agg cs) W := by simpa [ldT, Instr.loadAt, Instr.sureAddr] using hl
  simp [results, hr, h2', h3', asAddr, hl']
theorem ps_turn {w w' : World} {so : Option Addr} {l : List (Nat × Nat)} {g B : Nat} (h : PsAt w so l) (q : w.grownBy w' (some g)) (hB : ∀ a, so = some a → B ≤ a.block) (hg : g < B) : PsAt w' so l := fun k hk => by
  obtain ⟨b, o, e, hc⟩ := h k hk
  refine ⟨b, o, e, fun i v hv => ?_⟩
  have h1 := hc i v hv
  rw [World.cell?_of_block (w := w) (q.block b (World.block_lt_of_cell? w _ h1) (fun q => by have := hB _ e; have := Option.some.inj q; dsimp only at *; omega))]
  exact h1
theorem ns_turn {w w' : World} {so : Option Addr} {l : List Nat} {g B : Nat} (h : NsAt w so l) (q : w.grownBy w' (some g)) (hB : ∀ a, so = some a → B ≤ a.block) (hg : g < B) : NsAt w' so l := fun k hk => by
  obtain ⟨b, o, e, hc⟩ := h k hk
  refine ⟨b, o, e, fun i v hv => ?_⟩
  have h1 := hc i v hv
  rw [World.cell?_of_block (w := w) (q.block b (World.block_lt_of_cell? w _ h1) (fun q => by have := hB _ e; have := Option.some.inj q; dsimp only at *; omega))]
  exact h1
/-- What Take answers: the manifest's rows are new. -/
def ManPost (w : World) (m : Mf) (e : Int) (R : Ending) (w' : World) : Prop :=
  ∃ so sc co cc, R = .returned (.tuple #[.agg (mcs m so sc co cc), .int .i64 e]) ∧ MfAt w' m so co ∧ Below w.heap.size w w' ∧ (∀ a, so = some a → w.heap.size ≤ a.block) ∧ (∀ a, co = some a → w.heap.size ≤ a.block) ∧ (co = none → cc = 0)
theorem man_none {w w' : World} (h : Below w.heap.size w w') (e : Int) : ManPost w mz e (.returned (.tuple #[.agg (mcs mz none 0 none 0), .int .i64 e])) w' :=
  ⟨none, 0, none, 0, rfl, mz_at _, h, (fun a e => by cases e), (fun a e => by cases e), fun _ => rfl⟩
set_option maxHeartbeats 4000000 in
theorem mtake_c (s : List UInt8) (w : World) (hs : s.length ≤ 1099511627776) (ht : Tab w) :
    Calls Tryz.prog 26 #[.string (str s)] w (ManPost w (tkM s) (tkE s)) := by
  have H0 := Loc.one w 34 (mcs mz none 0 none 0)
  have hsz := str_size s
  have HT := Lib.hid ht
  have HS := Lib.hid hs
  have HPL := Lib.hid (fp_len s)
  have HFS := Lib.hid (fe_set s)
  obtain ⟨m, hm⟩ : ∃ m, m = tkM s := ⟨_, rfl⟩
  obtain ⟨e, he⟩ : ∃ e, e = tkE s := ⟨_, rfl⟩
  rw [← hm, ← he]
  have HM := Lib.hid hm
  have HE := Lib.hid he
  obtain ⟨Q, hQ⟩ : ∃ Q, Q = ManPost w m e := ⟨_, rfl⟩
  rw [← hQ]
  have HQ := Lib.hid hQ
  clear hQ hm he ht
  go_enter Tryz.func26, Tryz.ntmps26
  go_upto_region 1 with fail
  rw [show (#[.int .u64 0, .int .u8 0, .slice none 0 0, .slice none 0 0] : Array Value) = mcs mz none 0 none 0 from rfl]
  generalize w.alloc (.cells (mcs mz none 0 none 0) 34) = wa at *
  go_wp2_with fail
  refine (next_c s _ HS.out (tab_below HT.out H0.be)).mono ?_
  rintro E w1 ⟨rfl, hb1⟩
  have H1 := H0.to hb1
  by_cases hf : fe s = 0
  · have hfu : fu s = 6 + (fp s).length := if_pos hf
    have HFU := Lib.hid hfu
    have HY := Lib.hid (tkYes_iff hf)
    have hE : e = if tkYes s then 0 else 4 := by rw [HE.out]; exact if_pos hf
    have hM : m = if tkYes s then (rdM (fp s)).val else mz := by rw [HM.out]; exact if_pos hf
    have HEE := Lib.hid hE
    have HMM := Lib.hid hM
    have hq : (fe s != 0) = false := by rw [hf]; rfl
    clear hfu hE hM HE HM
    obtain ⟨p, hp⟩ : ∃ p, p = fp s := ⟨_, rfl⟩
    rw [← hp] at HFU HY HMM HPL ⊢
    obtain ⟨u, hu⟩ : ∃ u, u = fu s := ⟨_, rfl⟩
    rw [← hu] at HFU ⊢
    generalize fe s = f0 at *
    clear hp hu hf
    go_wp2_with fail
    refine (rdNew p _ (by have := HPL.out; omega)).mono ?_
    rintro E w2 ⟨rfl, hr2, hg2, -⟩
    obtain ⟨gr, hgr⟩ : ∃ gr, gr = w1.heap.size := ⟨_, rfl⟩
    rw [← hgr] at hr2 ⊢
    have h1l := H1.low (e := (w.heap.size, 34, mcs mz none 0 none 0)) (by simp)
    have HGR := Lib.hid (show w.heap.size < gr by rw [hgr]; exact h1l)
    have H2 := H1.grown hg2
    clear hg2 hgr h1l
    go_wp2_with fail
    refine (mread_c gr p w2 hr2).mono ?_
    rintro E w3 ⟨so, sc, co, cc, rfl, hps, hns, hr3, hg3, hn1, hn2, hn3⟩
    have hVF := rdM_fit p
    have hLN := rdM_lens p
    obtain ⟨⟨X0, V, X2⟩, hX⟩ : ∃ X, X = rdM p := ⟨_, rfl⟩
    rw [← hX] at hps hns hr3 HY HMM hVF hLN ⊢
    clear hX
    dsimp only at hps hns hr3 HY HMM hVF hLN ⊢
    have H3 := H2.row hg3 (by have := HGR.out; omega) (fun e he => by
      simp only [List.mem_cons, List.not_mem_nil, or_false] at he
      subst he
      have := HGR.out
      dsimp only
      omega)
    have AT3 := Lib.hid (show MfAt w3 V so co from ⟨hVF, hps, hns, by simp only [maxLen]; omega, by simp only [maxLen]; omega⟩)
    have N3 := Lib.hid (show (∀ a, so = some a → w.heap.size ≤ a.block) ∧ (∀ a, co = some a → w.heap.size ≤ a.block) ∧ (co = none → cc = 0) from ⟨fun a e => Nat.le_trans H2.size (hn1 a e), fun a e => Nat.le_trans H2.size (hn2 a e), hn3⟩)
    have N4 := Lib.hid (show (∀ a, so = some a → w.heap.size + 1 ≤ a.block) ∧ (∀ a, co = some a → w.heap.size + 1 ≤ a.block) from ⟨fun a e => Nat.le_trans (H2.low (e := (w.heap.size, 34, mcs mz none 0 none 0)) (by simp)) (hn1 a e), fun a e => Nat.le_trans (H2.low (e := (w.heap.size, 34, mcs mz none 0 none 0)) (by simp)) (hn2 a e)⟩)
    have R3 := Lib.hid hr3
    clear hVF hLN hps hns hr3 hg3 hr2 hn1 hn2 hn3 H1 H2 H0 hb1
    obtain ⟨g8, w4, z4, s4, H4, q4⟩ := H3.newA ty_man #[.int .u64 0, .int .u8 0, .slice none 0 0, .slice none 0 0] (mcs V so sc co cc) rfl rfl rfl
    replace H4 : Loc _ _ _ [(w.heap.size, 34, mcs mz none 0 none 0), (g8, 34, mcs V so sc co cc)] := H4
    have AT4 := Lib.hid (AT3.out.to (below_of_grown q4))
    have R4 := Lib.hid (rd_on R3.out q4)
    have l4 := H4.ldA ty_man 1 rfl 0 (vs := mcs V so sc co cc) rfl (Nat.le_of_ble_eq_true rfl)
    clear AT3 R3 q4 H3
    obtain ⟨w5, s5, H5, _⟩ := H4.stA ty_man 0 rfl 0 #[.int .u64 0, .int .u8 0, .slice none 0 0, .slice none 0 0] (cs' := mcs mz none 0 none 0) rfl (L' := [(w.heap.size, 34, mcs mz none 0 none 0), (g8, 34, mcs V so sc co cc)]) rfl (Nat.le_of_ble_eq_true rfl) rfl rfl
    have NO : Hid (tkYes s = false → ∀ W, Below w.heap.size w W → Q (.returned (.tuple #[.agg (mcs mz none 0 none 0), .int .i64 4])) W) := fun hn W hW => by
      have e1 := HEE.out; have e2 := HMM.out
      rw [if_neg (by rw [hn]; decide)] at e1 e2
      rw [HQ.out, e1, e2]
      exact man_none hW 4
    by_cases c1 : u = s.length
    · have hq1 : ((u : Int) != (s.length : Int)) = false := by rw [bne_eq_false_iff_eq, c1]
      go_wp2_with fail
      clear s4
      refine (rdErr gr _ _ w4 R4.out).mono ?_
      rintro E w' ⟨rfl, rfl⟩
      by_cases c2 : X0 = 0
      · have hq2 : (X0 != 0) = false := by rw [c2]; rfl
        go_wp2_with fail
        refine (rdRest gr _ _ w4 R4.out).mono ?_
        rintro E w' ⟨rfl, rfl⟩
        cases hX2 : X2 with
        | nil =>
          have hq3 : ((str ([] : List UInt8)).toList == []) = true := by rw [ByteArray.toList_eq, str_data]; rfl
          have hemp : (str ([] : List UInt8)).toList.isEmpty = true := by rw [ByteArray.toList_eq, str_data]; rfl
          have hemp2 : (str ([] : List UInt8)).toList = [] := by rw [ByteArray.toList_eq, str_data]
          go_wp2_with fail
          refine (mcheck_c V so sc co cc w4 AT4.out).mono ?_
          rintro E w6 ⟨rfl, hb6⟩
          cases hok : V.ok
          · have hn := NO.out (by
              cases hy : tkYes s
              · rfl
              · exact absurd (HY.out.1 hy).2.2.2 (by rw [hok]; decide))
            rw [(pt_no hok).2]
            obtain ⟨w7, s7, H7, _⟩ := (H4.to hb6).stA ty_man 0 rfl 0 #[.int .u64 0, .int .u8 0, .slice none 0 0, .slice none 0 0] (cs' := mcs mz none 0 none 0) rfl (L' := [(w.heap.size, 34, mcs mz none 0 none 0), (g8, 34, mcs V so sc co cc)]) rfl (Nat.le_of_ble_eq_true rfl) rfl rfl
            have HN := Lib.hid hn
            clear hok hn l4 s5 hX2
            go_wp2
            refine bodyPost_ret (shut_man _ 4 _ Tryz.results26 ty_man (H7.get 0 rfl) rfl rfl rfl) rfl ?_
            exact HN.out _ H7.be
          · have hy : tkYes s = true := HY.out.2 ⟨by rw [← HFU.out]; exact c1, c2, hX2, hok⟩
            rw [(pt_yes hok).2]
            have l6 := (H4.to hb6).ldA ty_man 1 rfl 0 (vs := mcs V so sc co cc) rfl (Nat.le_of_ble_eq_true rfl)
            obtain ⟨w7, s7, H7, q7⟩ := (H4.to hb6).stA ty_man 0 rfl 0 (mcs V so sc co cc) (cs' := mcs V so sc co cc) rfl (L' := [(w.heap.size, 34, mcs V so sc co cc), (g8, 34, mcs V so sc co cc)]) rfl (Nat.le_of_ble_eq_true rfl) rfl rfl
            have h9 : Hid (Q (.returned (.tuple #[.agg (mcs V so sc co cc), .int .i64 0])) w7) := by
              have e1 := HEE.out; have e2 := HMM.out
              rw [if_pos hy] at e1 e2
              show Q _ _
              rw [HQ.out, e1, e2]
              have hA6 := AT4.out.to hb6
              refine ⟨so, sc, co, cc, rfl, ⟨hA6.fit, ?_, ?_, hA6.l1, hA6.l2⟩, H7.be, N3.out⟩
              · exact ps_turn hA6.ps q7 (B := w.heap.size + 1) N4.out.1 (by omega)
              · exact ns_turn hA6.ns q7 (B := w.heap.size + 1) N4.out.2 (by omega)
            clear hok hy l4 s5 hX2
            go_wp2
            refine bodyPost_ret (shut_man _ 0 _ Tryz.results26 ty_man (H7.get 0 rfl) rfl rfl rfl) rfl ?_
            exact h9.out
        | cons b r =>
          have hq3 : ((str (b :: r)).toList == []) = false := by rw [ByteArray.toList_eq, str_data]; rfl
          have hemp : (str (b :: r)).toList.isEmpty = false := by rw [ByteArray.toList_eq, str_data]; rfl
          have hn := NO.out (by
            cases hy : tkYes s
            · rfl
            · exact absurd (HY.out.1 hy).2.2.1 (by rw [hX2]; simp))
          have HN := Lib.hid hn
          clear hn hX2 l4
          go_wp2
          refine bodyPost_ret (shut_man _ 4 _ Tryz.results26 ty_man (H5.get 0 rfl) rfl rfl rfl) rfl ?_
          exact HN.out _ H5.be
      · have hq2 : (X0 != 0) = true := by rw [bne_iff_ne]; exact c2
        have hn := NO.out (by
          cases hy : tkYes s
          · rfl
          · exact absurd (HY.out.1 hy).2.1 c2)
        have HN := Lib.hid hn
        clear hn l4 c2
        go_wp2
        refine bodyPost_ret (shut_man _ 4 _ Tryz.results26 ty_man (H5.get 0 rfl) rfl rfl rfl) rfl ?_
        exact HN.out _ H5.be
    · have hq1 : ((u : Int) != (s.length : Int)) = true := by rw [bne_iff_ne]; omega
      have hn := NO.out (by
        cases hy : tkYes s
        · rfl
        · exact absurd ((HFU.out).trans (HY.out.1 hy).1) c1)
      have HN := Lib.hid hn
      clear hn l4 c1
      go_wp2
      refine bodyPost_ret (shut_man _ 4 _ Tryz.results26 ty_man (H5.get 0 rfl) rfl rfl rfl) rfl ?_
      exact HN.out _ H5.be
  · have hE : e = fe s := by rw [HE.out]; exact if_neg hf
    have hM : m = mz := by rw [HM.out]; exact if_neg hf
    have HEM := Lib.hid (And.intro hE hM)
    have hq : (fe s != 0) = true := by rw [bne_iff_ne]; exact hf
    obtain ⟨f0, hf0⟩ : ∃ f0, f0 = fe s := ⟨_, rfl⟩
    rw [← hf0] at hq HEM ⊢
    clear hE hM hf hf0 HFS HE HM
    obtain ⟨w4, s4, H4, _⟩ := H1.stA ty_man 0 rfl 0 #[.int .u64 0, .int .u8 0, .slice none 0 0, .slice none 0 0] (cs' := mcs mz none 0 none 0) rfl (L' := [(w.heap.size, 34, mcs mz none 0 none 0)]) rfl (Nat.le_of_ble_eq_true rfl) rfl rfl
    go_wp2
    refine bodyPost_ret (shut_man _ f0 _ Tryz.results26 ty_man (H4.get 0 rfl) rfl rfl rfl) rfl ?_
    rw [HQ.out, HEM.out.1, HEM.out.2]
    exact man_none H4.be f0
end Go.Proofs.YtakejacamkdncaaGreatDoor
