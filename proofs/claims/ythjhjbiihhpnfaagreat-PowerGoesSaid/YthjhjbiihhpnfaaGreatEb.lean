/- The document's disk: look, Read, Synced, Used, List, Same. -/
import Derived.Test.YthjhjbiihhpnfaaGreatEa
import Derived.Deep.AppendLies
namespace Go.Proofs.YthjhjbiihhpnfaaGreat
open Go.RowKit Go.Shelf Go.Deep
set_option linter.unusedVariables false
set_option linter.unusedSimpArgs false
set_option maxRecDepth 100000

def LookP (E : List Ent) (n : List UInt8) (w : World) (R : Ending) (w' : World) : Prop :=
  w = w' ∧ ((isNm n = false ∧ R = .returned (.tuple #[.int .i64 0, .int .i64 2])) ∨ (isNm n = true ∧ fnd n E = none ∧ R = .returned (.tuple #[.int .i64 0, .int .i64 5])) ∨
    ∃ (j : Nat) (h : j < E.length), isNm n = true ∧ (E[j]'h).nm = n ∧ fnd n E = some (E[j]'h) ∧ R = .returned (.tuple #[.int .i64 (j : Int), .int .i64 0]))
section
variable {S : Nat → Prop} {w : World} {g q cap : Nat} {ao : Option Addr} {E : List Ent}
theorem look2_c (h : RkC S w g q ao cap E) (n : List UInt8) (hn : n.length ≤ maxLen) :
    Calls Tryz.prog 65 #[.pointer (some ⟨g, 0, none⟩), .string (str n)] w (LookP E n w) := by
  have hr := rname_c n w hn
  have ha := at_c h n
  have HA := Lib.hid ha
  clear h ha
  cases hq : isNm n with
  | false =>
    rw [hq] at hr
    have HQ := Lib.hid hq
    clear hq
    go_enter Tryz.func65, Tryz.ntmps65
    go_wp2_with fail
    refine hr.mono ?_
    rintro R w1 ⟨rfl, rfl⟩
    go_wp2
    go_ret2
    exact ⟨rfl, .inl ⟨HQ.out, rfl⟩⟩
  | true =>
    rw [hq] at hr
    have HQ := Lib.hid hq
    clear hq
    go_enter Tryz.func65, Tryz.ntmps65
    go_wp2_with fail
    refine hr.mono ?_
    rintro R w1 ⟨rfl, rfl⟩
    go_wp2_with fail
    refine HA.out.mono ?_
    rintro R w1 ⟨rfl, ⟨hf, rfl⟩ | ⟨j, hj, hjn, _, hf, rfl⟩⟩
    · have HF := Lib.hid hf
      clear hf
      go_wp2
      go_ret2
      exact ⟨rfl, .inr (.inl ⟨HQ.out, HF.out, rfl⟩)⟩
    · have HF := Lib.hid hf
      have HJ := Lib.hid hjn
      have HL := Lib.hid hj
      have i1 : ¬ (j : Int) < 0 := by omega
      clear hf hjn
      go_wp2
      go_ret2
      exact ⟨rfl, .inr (.inr ⟨j, HL.out, HQ.out, HJ.out, HF.out, rfl⟩)⟩
theorem rread_c (h : RkC S w g q ao cap E) (n : List UInt8) (hn : n.length ≤ maxLen) :
    Calls Tryz.prog 40 #[.pointer (some ⟨g, 0, none⟩), .string (str n)] w fun R w' => R = .returned (.tuple #[.string (str (rd E n)), .int .i64 (eFind E n)]) ∧ w = w' := by
  have hl := look2_c h n hn
  have c1 := h.c1
  have HR := Lib.hid h.row
  have HE : Hid (rd E n = if isNm n then (match fnd n E with | some f => f.bs | none => []) else []) := rfl
  have HF : Hid (eFind E n = if isNm n then (match fnd n E with | some _ => 0 | none => 5) else 2) := rfl
  clear h
  go_enter Tryz.func40, Tryz.ntmps40
  go_wp2_with fail
  refine hl.mono ?_
  rintro R w1 ⟨rfl, ⟨h1, rfl⟩ | ⟨h1, h2, rfl⟩ | ⟨j, hj, h1, h2, h3, rfl⟩⟩
  · have H1 := Lib.hid h1
    clear h1
    go_wp2
    go_ret2
    exact ⟨by rw [HE.out, HF.out, H1.out]; rfl, rfl⟩
  · have H1 := Lib.hid h1
    have H2 := Lib.hid h2
    clear h1 h2
    go_wp2
    go_ret2
    exact ⟨by rw [HE.out, HF.out, H1.out, H2.out]; rfl, rfl⟩
  · have H1 := Lib.hid h1
    have H3 := Lib.hid h3
    obtain ⟨gr, rfl, d0, d1, d2⟩ := HR.out.at hj
    have i2 : (j : Int) < (E.length : Int) := by omega
    clear h1 h2 h3 d0 d2
    go_wp2
    go_ret2
    exact ⟨by rw [HE.out, HF.out, H1.out, H3.out]; rfl, rfl⟩
theorem rsynced_c (h : RkC S w g q ao cap E) (n : List UInt8) (hn : n.length ≤ maxLen) :
    Calls Tryz.prog 42 #[.pointer (some ⟨g, 0, none⟩), .string (str n)] w fun R w' => R = .returned (.int .i64 (sy E n)) ∧ w = w' := by
  have hl := look2_c h n hn
  have c1 := h.c1
  have HR := Lib.hid h.row
  have HE : Hid (sy E n = if isNm n then (match fnd n E with | some f => f.su | none => 0) else 0) := rfl
  clear h
  go_enter Tryz.func42, Tryz.ntmps42
  go_wp2_with fail
  refine hl.mono ?_
  rintro R w1 ⟨rfl, ⟨h1, rfl⟩ | ⟨h1, h2, rfl⟩ | ⟨j, hj, h1, h2, h3, rfl⟩⟩
  · have H1 := Lib.hid h1
    clear h1
    go_wp2
    go_ret
    exact ⟨by rw [HE.out, H1.out]; rfl, rfl⟩
  · have H1 := Lib.hid h1
    have H2 := Lib.hid h2
    clear h1 h2
    go_wp2
    go_ret
    exact ⟨by rw [HE.out, H1.out, H2.out]; rfl, rfl⟩
  · have H1 := Lib.hid h1
    have H3 := Lib.hid h3
    obtain ⟨gr, rfl, d0, d1, d2⟩ := HR.out.at hj
    have i2 : (j : Int) < (E.length : Int) := by omega
    clear h1 h2 h3 d0 d1
    go_wp2
    go_ret
    exact ⟨by rw [HE.out, H1.out, H3.out]; rfl, rfl⟩
theorem used_take {E : List Ent} {k : Nat} (h : k < E.length) : used (E.take (k + 1)) = used (E.take k) + (E[k]'h).bs.length := by
  rw [List.take_succ_eq_append_getElem h, used_app, used_cons, used_nil]; omega
theorem used_take_le (E : List Ent) (k : Nat) : used (E.take k) ≤ used E := by
  have := used_app (E.take k) (E.drop k)
  rw [List.take_append_drop] at this
  omega
theorem rused_c (h : RkC S w g q ao cap E) : Calls Tryz.prog 38 #[.pointer (some ⟨g, 0, none⟩)] w fun R w' => R = .returned (.int .i64 (used E)) ∧ w = w' := by
  have c1 := h.c1
  have hu := h.good.use
  have hq := h.good.q2
  have hl := h.good.len
  have HR := Lib.hid h.row
  clear h
  go_enter Tryz.func38, Tryz.ntmps38
  go_wp2
  go_loop [4, 3] (fun i s => ∃ k u : Nat, k ≤ E.length ∧ i = .int .i64 k ∧ s = .int .i64 u ∧ Hid (u = used (E.take k))) (fun i _ => E.length - (intOf i).toNat)
  case atStart => exact ⟨0, 0, Nat.zero_le _, rfl, rfl, rfl⟩
  case round =>
    obtain ⟨k, u, hk, rfl, rfl, HU⟩ := hrel
    by_cases hlt : k < E.length
    · have i2 : (k : Int) < (E.length : Int) := by omega
      obtain ⟨gr, rfl, d0, d1, d2⟩ := HR.out.at hlt
      obtain ⟨m, hm⟩ : ∃ m, (E[k]'hlt).bs.length = m := ⟨_, rfl⟩
      have hsz := str_size (E[k]'hlt).bs
      have hut := used_take hlt
      have hle := used_take_le E (k + 1)
      rw [← HU.out, hm] at hut
      rw [hm] at hsz
      have hum : u + m ≤ 1048576 := by omega
      have HN : Hid (u + m = used (E.take (k + 1))) := hut.symm
      clear hut hle d0 d2 hm
      generalize (E[k]'hlt).bs = bs at *
      go_wp2
      go_round
      case rel => exact ⟨k + 1, u + m, by omega, by go_num, by go_num, HN.out⟩
      case measure => simp [intOf]; omega
    · have hx : k = E.length := by omega
      have i2 : ¬ (k : Int) < (E.length : Int) := by omega
      have HX := Lib.hid hx
      clear hx hlt hk
      go_wp2
      go_ret
      exact ⟨by rw [HU.out, HX.out, List.take_length]; rfl, rfl⟩
theorem lst_form {w : World} {B : Nat} {v : Value} {l : List (List UInt8)} (h : Lst w B v l) : ∃ ao cap, v = .slice ao l.length cap := by
  rcases h.2 with ⟨rfl, h0⟩ | ⟨g, cap, cur, rfl, _⟩
  · rw [h0]; exact ⟨_, _, rfl⟩
  · exact ⟨_, _, rfl⟩
theorem lst_step {w w1 w2 : World} {B : Nat} {v v2 : Value} {l : List (List UInt8)} {n : List UInt8} (h : Lst w1 B v l) (hb : Below B w w1) (hr : w2.ownsRow B 9 1 v2 (l.length + 1) (l.map (fun n => .string (str n)) ++ [.string (str n)]))
    (wa : World) (ha : Below w1.heap.size w1 wa) (hg : wa.grownBy w2 v.ownBlock) (hB : B ≤ w1.heap.size) : Lst w2 B v2 (l ++ [n]) ∧ Below B w w2 := by
  constructor
  · unfold Lst
    rw [List.map_append, List.length_append]
    exact hr
  · have h2 : Below B w1 wa := ha.mono hB
    exact (hb.trans h2).trans ((Tu.grown hg).below (fun x hx e => by have := (h.lt x e.symm).1; omega) (Nat.le_trans hB ha.size))
set_option maxHeartbeats 1000000 in
theorem rlist_c (h : RkC S w g q ao cap E) : Calls Tryz.prog 36 #[.pointer (some ⟨g, 0, none⟩)] w fun R w' => ∃ u, R = .returned u ∧ Lst w' w.heap.size u (E.map Ent.nm) ∧ Below w.heap.size w w' := by
  obtain ⟨i0, hi0, hz0, hz1, hz2⟩ := info_parts info_st
  have HI0 := Lib.hid hi0
  have HZ0 := Lib.hid hz0
  have HZ1 := Lib.hid hz1
  have HZ2 := Lib.hid hz2
  clear hi0 hz0 hz1 hz2
  have hl := h.good.len
  have HK := Lib.hid h
  clear h
  have c1 := HK.out.c1
  go_enter Tryz.func36, Tryz.ntmps36
  go_wp2
  clear c1
  go_loopw [4, 3] (fun i v wr => ∃ k : Nat, k ≤ E.length ∧ i = .int .i64 k ∧ Hid (Lst wr w.heap.size v ((E.take k).map Ent.nm)) ∧ Hid (Below w.heap.size w wr)) (fun i _ _ => E.length - (intOf i).toNat)
  case atStart => exact ⟨0, Nat.zero_le _, rfl, (World.ownsRow_nil _ _ _ _ : Lst w w.heap.size (.slice none 0 0) []), Below.refl _ _⟩
  case round =>
    obtain ⟨k, hk, rfl, HLs, HB⟩ := hrel
    have c1 := (HK.out.new HB.out).c1
    by_cases hlt : k < E.length
    · have i2 : (k : Int) < (E.length : Int) := by omega
      obtain ⟨gr, rfl, d0, d1, d2⟩ := (HK.out.new HB.out).row.at hlt
      obtain ⟨vo, vc, rfl⟩ := lst_form HLs.out
      have hkl : ((E.take k).map Ent.nm).length = k := by rw [List.length_map, List.length_take]; omega
      have HT : Hid ((E.take (k + 1)).map Ent.nm = (E.take k).map Ent.nm ++ [(E[k]'hlt).nm]) := by show _ = _; rw [List.take_succ_eq_append_getElem hlt, List.map_append]; rfl
      clear d1 d2
      generalize (E[k]'hlt).nm = n at *
      generalize (E.take k).map Ent.nm = nl at *
      have hB := HB.out.size
      have hb1 : nl.length + 1 ≤ maxLen := by unfold maxLen; omega
      have hb2 : (nl.length + 1) * 16 ≤ 140737488355328 := by omega
      go_wp2_with (at_builtin; refine wpList_append_lies _ rfl _ _ 80 rfl w.heap.size 9 i0 (.string ⟨#[]⟩) 1 16 Tryz.underlying80 HI0.out HZ0.out HZ1.out HZ2.out rfl (by decide) _ nl.length _ rfl (World.ownsRow.alloc HLs.out _) ⟨wr.heap.size, 0, none⟩ 1 1 [.string (str n)] rfl rfl (cell_one_new _ _ _) (by simp [Value.oneCell']) (by decide) hb1 hb2 (by simp; omega) _ rfl ?_; intro g' cap' w2 hown' hgr _ _; obtain ⟨hl2, hb2'⟩ := lst_step HLs.out HB.out hown' _ (below_alloc wr _) hgr hB; rw [← HT.out] at hl2; have HL2 := Lib.hid hl2; have HB2 := Lib.hid hb2'; clear hown' hgr hl2 hb2')
      go_round
      case rel => exact ⟨k + 1, by omega, by go_num, (by have := HL2.out; rw [hkl] at this; exact this), HB2.out⟩
      case measure => simp [intOf]; omega
    · have hx : k = E.length := by omega
      have i2 : ¬ (k : Int) < (E.length : Int) := by omega
      have HX := Lib.hid hx
      clear hx hlt hk
      go_wp2
      go_ret
      exact ⟨_, rfl, by have := HLs.out; rw [HX.out, List.take_length] at this; exact this, HB.out⟩
end
end Go.Proofs.YthjhjbiihhpnfaaGreat
