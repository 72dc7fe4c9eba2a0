/- A record taken, and put, by the program: one contract each. Conditions: a text to be taken is of 2^40 bytes at most. -/
import Derived.Test.YthnelnfefllhpaaDoorQe
namespace Go.Proofs.YthnelnfefllhpaaDoor
open Go.RowKit
set_option linter.unusedVariables false
set_option linter.unusedSimpArgs false
set_option maxRecDepth 20000

/-- The blocks of S stay, and so do those of the call's own that are of S. -/
theorem Loc.kept {B : Nat} {w0 w w' : World} {L L' : List (Nat × TypeId × Array Value)} {S : Nat → Prop} (h : Loc B w0 w L) (hk : Kept S w w') (hB : ∀ k, k < B → S k) (hs : L'.Sublist L) (hS : ∀ e ∈ L', S e.1) : Loc B w0 w' L' :=
  ⟨h.hb, h.be.trans (kept_below (hk.less hB)), fun e he => h.ge e (hs.subset he), (hs.map Prod.fst).nodup h.nd, fun e he => (hk.block e.1 (hS e he)).trans (h.cs e (hs.subset he))⟩
theorem shut_rec {W : World} {g : Nat} {cs : Array Value} {T : TypeId} (tmps : Array Value) (e : Int) (fn : Func) (hr : fn.results = #[.cell 2 T, .tmp 3]) (ty : TyA T 9) (h : Cells W g T cs) (hs : cs.size = 9) (h2 : tmps.getD 2 undef = .pointer (some ⟨g, 0, none⟩)) (h3 : tmps.getD 3 undef = .int .i64 e) :
    (results fn tmps).run Tryd.prog W = .ok (.tuple #[.agg cs, .int .i64 e]) W := by
  have hl := run_ldA ty h 0 (by omega)
  have he : ((cs.toList.drop 0).take 9).toArray = cs := by simp [List.take_of_length_le, hs]
  rw [he] at hl
  have h2' : tmps[2]?.getD undef = .pointer (some ⟨g, 0, none⟩) := by simpa using h2
  have h3' : tmps[3]?.getD undef = .int .i64 e := by simpa using h3
  have hl' : (loadVar T ⟨g, 0, none⟩).run Tryd.prog W = .ok (.agg cs) W := by simpa [ldT, Instr.loadAt, Instr.sureAddr] using hl
  simp [results, hr, h2', h3', asAddr, hl']
def tkG (x : Rg) : Int × Rc := if x.err = 0 then (if x.known = true ∧ x.rest = [] ∧ lowB x.val = true then (0, x.val) else (4, rz)) else (x.err, rz)
theorem tkR_tkG (l : List UInt8) : tkR l = tkG (rdE l) := rfl
theorem two_le {B : Nat} {w0 w : World} {x y : Nat × TypeId × Array Value} (h : Loc B w0 w [x, y]) (hy : y.1 = B + 1) : B + 1 < w.heap.size := by have := h.low (e := y) (by simp); omega
attribute [local go_sem ↓] ld_rec ld_rdr ld_prd st_rec st_rdr
set_option maxHeartbeats 1000000 in
theorem take_q (l : List UInt8) (w : World) (hl : l.length ≤ 1099511627776) (Q : Ending → World → Prop) (HQ : Hid (∀ w', Below w.heap.size w w' → Q (.returned (.tuple #[.agg (rcs (tkG (rdE l)).2), .int .i64 (tkG (rdE l)).1])) w')) :
    Calls Tryd.prog 25 #[.string (str l)] w Q := by
  have HE := fun (g gr : Nat) (w : World) (h : Rr w g gr l 0 (rcs rz)) => encR_c g gr l w h
  have HF := rdE_fit l
  obtain ⟨X, hX⟩ : ∃ X, X = rdE l := ⟨_, rfl⟩
  rw [← hX] at HE HQ HF
  clear hX
  obtain ⟨K, e, R, V⟩ := X
  have HF := Lib.hid HF
  have HEE := Lib.hid HE
  clear HE
  have H0 := Loc.two w 28 28 (#[.int .i64 0, .int .u64 0, .int .u8 0, .int .u8 0, .int .u8 0, .int .u64 0, .int .u64 0, .int .u64 0, .int .u8 0]) (#[.int .i64 0, .int .u64 0, .int .u8 0, .int .u8 0, .int .u8 0, .int .u64 0, .int .u64 0, .int .u64 0, .int .u8 0])
  have HLL := Lib.hid hl
  go_enter Tryd.func25, Tryd.ntmps25
  go_upto_region 2 with fail
  generalize (w.alloc (.cells #[.int .i64 0, .int .u64 0, .int .u8 0, .int .u8 0, .int .u8 0, .int .u64 0, .int .u64 0, .int .u64 0, .int .u8 0] 28)).alloc (.cells #[.int .i64 0, .int .u64 0, .int .u8 0, .int .u8 0, .int .u8 0, .int .u64 0, .int .u64 0, .int .u64 0, .int .u8 0] 28) = wa at *
  have HS := Lib.hid (two_le H0 rfl)
  have H0 := Lib.hid H0
  go_wp2_with fail
  refine (rdNew l _ HLL.out).mono ?_
  rintro E w1 ⟨rfl, hr1, hg1, -⟩
  obtain ⟨gd, hgd⟩ : ∃ gd, gd = wa.heap.size := ⟨_, rfl⟩
  rw [← hgd] at hr1 HS ⊢
  clear hgd
  have R1 := Lib.hid hr1
  have H1 := H0.out.grown hg1
  clear hr1 hg1
  obtain ⟨g5, w2, z2, s2, H2, q2⟩ := H1.newA ty_rdr #[.pointer none] #[.pointer (some ⟨gd, 0, none⟩)] rfl rfl rfl
  replace H2 : Loc w.heap.size w w2 [(w.heap.size, 28, rcs rz), (w.heap.size + 1, 28, rcs rz), (g5, 103, #[.pointer (some ⟨gd, 0, none⟩)])] := H2
  have R2 := Lib.hid (rd_on R1.out q2)
  have l2 := H2.ldA ty_rdr 2 rfl 0 (vs := #[.pointer (some ⟨gd, 0, none⟩)]) rfl (Nat.le_of_ble_eq_true rfl)
  have N5 := Lib.hid (show gd < g5 by rw [← z2]; exact R1.out.1.lt)
  have HG := Lib.hid (H2.low (e := (g5, 103, #[.pointer (some ⟨gd, 0, none⟩)])) (by simp))
  have H2 := Lib.hid H2
  clear H1
  go_wp2_with fail
  clear s2 z2 l2
  refine (HEE.out gd (w.heap.size + 1) w2 ⟨R2.out, H2.out.get 1 rfl, by have := HS.out; omega⟩).mono ?_
  rintro E w3 ⟨rfl, hr3⟩
  obtain ⟨⟨rd3, rc3, -⟩, k3⟩ := hr3
  have RD3 := Lib.hid rd3
  have RC3 := Lib.hid rc3
  have H3 : Loc w.heap.size w w3 [(w.heap.size, 28, rcs rz), (g5, 103, #[.pointer (some ⟨gd, 0, none⟩)])] :=
    H2.out.kept k3 (fun k hk => ⟨by have := HS.out; have := N5.out; have := HG.out; (try dsimp only at *); omega, by have := HS.out; omega, by omega⟩) (.cons_cons _ (.cons _ (.cons_cons _ .slnil))) (fun x hx => by
      have a1 := HS.out
      have a2 := N5.out
      have a3 := HG.out
      simp only [List.mem_cons, List.not_mem_nil, or_false] at hx
      rcases hx with rfl | rfl <;> exact ⟨by (try dsimp only at *); omega, by (try dsimp only at *); omega, by (try dsimp only at *); omega⟩)
  clear rd3 rc3 k3 HG N5 HS R1 R2 H2 H0 q2 HEE
  have l3 := H3.ldO ty_prd 1 rfl 0 (v := .pointer (some ⟨gd, 0, none⟩)) rfl
  have C3 : w3.cell? ⟨w.heap.size + 1, 0, none⟩ = _ := RC3.out.cell 0
  have l4 := run_ldA ty_rec RC3.out 0 (Nat.le_of_ble_eq_true rfl)
  rw [show (((rcs V).toList.drop 0).take 9).toArray = rcs V from rfl] at l4
  clear C3
  obtain ⟨w4, s4, H4, q4⟩ := H3.stA ty_rec 0 rfl 0 #[.int .i64 0, .int .u64 0, .int .u8 0, .int .u8 0, .int .u8 0, .int .u64 0, .int .u64 0, .int .u64 0, .int .u8 0] (cs' := rcs rz) rfl (L' := [(w.heap.size, 28, rcs rz), (g5, 103, #[.pointer (some ⟨gd, 0, none⟩)])]) rfl (Nat.le_of_ble_eq_true rfl) rfl rfl
  clear q4
  go_wp2_with fail
  refine (rdErr gd R e w3 RD3.out).mono ?_
  rintro E w' ⟨rfl, rfl⟩
  by_cases he : e = 0
  · subst he
    cases K
    · have HQ2 : Hid (∀ w', Below w.heap.size w w' → Q (.returned (.tuple #[.agg (rcs rz), .int .i64 4])) w') := fun w' h => by have := HQ.out w' h; simpa [tkG] using this
      go_wp2
      refine bodyPost_ret (shut_rec _ 4 _ Tryd.results25 ty_rec (H4.get 0 rfl) rfl rfl rfl) rfl ?_
      exact HQ2.out _ H4.be
    · cases R with
      | cons b R =>
        have HQ2 : Hid (∀ w', Below w.heap.size w w' → Q (.returned (.tuple #[.agg (rcs rz), .int .i64 4])) w') := fun w' h => by have := HQ.out w' h; simpa [tkG] using this
        have hemp : (str (b :: R)).toList.isEmpty = false := by rw [ByteArray.toList_eq, str_data]; rfl
        go_wp2_with fail
        refine (rdRest gd (b :: R) 0 w3 RD3.out).mono ?_
        rintro E w' ⟨rfl, rfl⟩
        go_wp2
        refine bodyPost_ret (shut_rec _ 4 _ Tryd.results25 ty_rec (H4.get 0 rfl) rfl rfl rfl) rfl ?_
        exact HQ2.out _ H4.be
      | nil =>
        have hemp : (str ([] : List UInt8)).toList.isEmpty = true := by rw [ByteArray.toList_eq, str_data]; rfl
        have HLOW := fun w => low_c V w HF.out
        go_wp2_with fail
        refine (rdRest gd [] 0 w3 RD3.out).mono ?_
        rintro E w' ⟨rfl, rfl⟩
        go_wp2_with fail
        refine (HLOW w3).mono ?_
        rintro E w5 ⟨rfl, hb5⟩
        have H5 := H3.to hb5
        have RC5 := RC3.out.below hb5 RC3.out.lt
        clear l3 l4 s4 HLOW
        cases hlow : lowB V
        · have HQ2 : Hid (∀ w', Below w.heap.size w w' → Q (.returned (.tuple #[.agg (rcs rz), .int .i64 4])) w') := fun w' h => by have := HQ.out w' h; simpa [tkG, hlow] using this
          obtain ⟨w6, s6, H6, q6⟩ := H5.stA ty_rec 0 rfl 0 #[.int .i64 0, .int .u64 0, .int .u8 0, .int .u8 0, .int .u8 0, .int .u64 0, .int .u64 0, .int .u64 0, .int .u8 0] (cs' := rcs rz) rfl (L' := [(w.heap.size, 28, rcs rz), (g5, 103, #[.pointer (some ⟨gd, 0, none⟩)])]) rfl (Nat.le_of_ble_eq_true rfl) rfl rfl
          clear q6
          go_wp2
          refine bodyPost_ret (shut_rec _ 4 _ Tryd.results25 ty_rec (H6.get 0 rfl) rfl rfl rfl) rfl ?_
          exact HQ2.out _ H6.be
        · have HQ2 : Hid (∀ w', Below w.heap.size w w' → Q (.returned (.tuple #[.agg (rcs V), .int .i64 0])) w') := fun w' h => by have := HQ.out w' h; simpa [tkG, hlow] using this
          have l5 := run_ldA ty_rec RC5 0 (Nat.le_of_ble_eq_true rfl)
          rw [show (((rcs V).toList.drop 0).take 9).toArray = rcs V from rfl] at l5
          obtain ⟨w6, s6, H6, q6⟩ := H5.stA ty_rec 0 rfl 0 (rcs V) (cs' := rcs V) rfl (L' := [(w.heap.size, 28, rcs V), (g5, 103, #[.pointer (some ⟨gd, 0, none⟩)])]) rfl (Nat.le_of_ble_eq_true rfl) rfl rfl
          clear q6
          go_wp2
          refine bodyPost_ret (shut_rec _ 0 _ Tryd.results25 ty_rec (H6.get 0 rfl) rfl rfl rfl) rfl ?_
          exact HQ2.out _ H6.be
  · have HQ2 : Hid (∀ w', Below w.heap.size w w' → Q (.returned (.tuple #[.agg (rcs rz), .int .i64 e])) w') := fun w' h => by have := HQ.out w' h; simpa [tkG, he] using this
    have hq0 : (e == 0) = false := beq_eq_false_iff_ne.2 he
    clear he
    go_wp2_with fail
    refine (rdErr gd R e w3 RD3.out).mono ?_
    rintro E w' ⟨rfl, rfl⟩
    go_wp2
    refine bodyPost_ret (shut_rec _ e _ Tryd.results25 ty_rec (H4.get 0 rfl) rfl rfl rfl) rfl ?_
    exact HQ2.out _ H4.be
theorem take_c' (l : List UInt8) (w : World) (hl : l.length ≤ 1099511627776) :
    Calls Tryd.prog 25 #[.string (str l)] w fun E w' => E = .returned (.tuple #[.agg (rcs (tkR l).2), .int .i64 (tkR l).1]) ∧ Below w.heap.size w w' := take_q l w hl _ (fun w' h => ⟨rfl, h⟩)
end Go.Proofs.YthnelnfefllhpaaDoor
