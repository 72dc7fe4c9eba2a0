/- Layer 6's statements on lists: InputPacks, InputUnpacks, InputOne, InputBack. -/
import Derived.Test.YtkhecaohbmlnlaaIk
import Derived.Test.YtkhecaohbmlnlaaIq
import Derived.Test.YtkhecaohbmlnlaaIz
import Derived.Laws.AppendOwnNone
namespace Go.Proofs.Ytkhecaohbmlnlaa
open Go.RowKit
set_option linter.unusedVariables false

/-- An argument: a list of inputs. -/
def IArg (w : World) (a : Option Addr) (len cap : Nat) (l : List UInt8) : Prop := l.length = len ∧ len ≤ cap ∧ cap ≤ maxLen ∧ (a = none → len = 0 ∧ cap = 0) ∧ Ins w a l
theorem own_cap {w : World} {B n cap : Nat} {ao : Option Addr} {xs : List Value} {e : TypeId} (h : w.ownsRow B e 1 (.slice ao n cap) n xs) : n ≤ cap ∧ cap ≤ maxLen := by
  rcases h.2 with ⟨he, h0⟩ | ⟨g, cap', cur, he, _, _, h1, h2, _⟩
  · injection he with e1 e2 e3
    subst e3
    simp [h0]
  · injection he with e1 e2 e3
    subst e3
    exact ⟨h1, h2⟩
theorem news_at {w : World} {b o : Nat} {l : List UInt8} (h : Ins w (some ⟨b, o, none⟩) l) : ∀ j u, (bvs l)[j]? = some u → w.cell? ((⟨b, o, none⟩ : Addr).add j) = some u := fun j u hu => by
  have hj : j < l.length := by
    have := (List.getElem?_eq_some_iff.1 hu).1
    simpa [bvs] using this
  obtain ⟨b', o', e, hc⟩ := h j hj
  injection e with e
  injection e with e1 e2
  subst e1 e2
  have e3 : (⟨b, o, none⟩ : Addr).add j = ⟨b, o + j, none⟩ := by unfold Addr.add; split <;> simp_all
  rw [e3, hc]
  have : (bvs l)[j]? = some (.int .u8 ((l[j]'hj).toNat : Int)) := by simp [bvs, bv, hj]
  rw [this] at hu
  exact hu
theorem bvs_one {l : List UInt8} : ∀ u ∈ bvs l, u.oneCell' = true := fun u hu => by
  obtain ⟨a, _, rfl⟩ := List.mem_map.1 hu
  rfl
set_option maxHeartbeats 2000000 in
theorem lawUnpacks (s : List UInt8) (m : Int) (w : World) (hs : s.length ≤ maxLen) (hm1 : -9223372036854775808 ≤ m) (hm2 : m < 9223372036854775808) :
    Calls Try.prog 5 #[.string (str s), .int .i64 m] w (Yes w) := by
  simp only [maxLen] at hs
  have hsz := str_size s
  by_cases h20 : 2000 < s.length
  · go_enter Try.func5, Try.ntmps5
    go_wp2_with fail
    refine (works_c _).mono ?_
    rintro E w9 ⟨rfl, hb9⟩
    go_wp2
    go_ret
    exact ⟨rfl, hb9⟩
  · have hl := upL_len (mo m) s (mo_le m)
    go_enter Try.func5, Try.ntmps5
    go_wp2_with fail
    refine (unpack_c s m _ (by omega) hm1 hm2).mono ?_
    rintro E w1 ⟨ao1, cap1, rfl, ho1, hb1⟩
    have hi1 := ins_own ho1
    clear ho1
    go_wp2_with fail
    refine (refUnpack s m _ (by omega) hm1 hm2).mono ?_
    rintro E w2 ⟨ao2, cap2, rfl, ho2, hb2⟩
    have hi2 := ins_own ho2
    have hi3 := ins_below hi1 hb2 (Nat.le_refl _)
    have hb := hb1.trans (hb2.mono hb1.size)
    clear ho2 hi1 hb1 hb2
    go_wp2_with fail
    refine (refSame ao1 ao2 cap1 cap2 (upL (mo m) s) _ (by omega) hi3 hi2).mono ?_
    rintro E w3 ⟨rfl, hg3⟩
    replace hb := hb.trans (grown_nb hg3 (by simp) hb.size)
    clear hg3 hi3 hi2
    go_wp2_with fail
    refine (works_c _).mono ?_
    rintro E w9 ⟨rfl, hb9⟩
    go_wp2
    go_ret
    exact ⟨rfl, hb.trans (hb9.mono hb.size)⟩
set_option maxHeartbeats 2000000 in
theorem lawOne (s : List UInt8) (m : Int) (w : World) (hs : s.length ≤ maxLen) (hm1 : -9223372036854775808 ≤ m) (hm2 : m < 9223372036854775808) :
    Calls Try.prog 7 #[.string (str s), .int .i64 m] w (Yes w) := by
  simp only [maxLen] at hs
  have hsz := str_size s
  by_cases h20 : 2000 < s.length
  · go_enter Try.func7, Try.ntmps7
    go_wp2_with fail
    refine (works_c _).mono ?_
    rintro E w9 ⟨rfl, hb9⟩
    go_wp2
    go_ret
    exact ⟨rfl, hb9⟩
  · have hl := upL_len (mo m) s (mo_le m)
    by_cases he : upE (mo m) s = 0
    · obtain ⟨hp, _⟩ := up_inv (mo m) s (mo_le m) he
      have HP := Lib.hid hp
      have HE := Lib.hid he
      clear hp he
      have hq : ((str s).toList == (str s).toList) = true := beq_self_eq_true _
      go_enter Try.func7, Try.ntmps7
      go_wp2_with fail
      refine (unpack_c s m _ (by omega) hm1 hm2).mono ?_
      rintro E w1 ⟨ao1, cap1, rfl, ho1, hb1⟩
      rw [HE.out]
      have hi1 := ins_own ho1
      obtain ⟨k1, k2⟩ := own_cap ho1
      clear ho1
      go_wp2_with fail
      refine (pack_c ao1 cap1 (upL (mo m) s) _ hi1 (by omega) k1 k2).mono ?_
      rintro E w2 ⟨rfl, hb2⟩
      rw [HP.out]
      have hb := hb1.trans (hb2.mono hb1.size)
      clear hi1 hb1 hb2 k1 k2
      generalize upL (mo m) s = l at *
      go_wp2_with fail
      refine (works_c _).mono ?_
      rintro E w9 ⟨rfl, hb9⟩
      go_wp2
      go_ret
      exact ⟨rfl, hb.trans (hb9.mono hb.size)⟩
    · have hL := upL_bad _ _ he
      have HL := Lib.hid hL
      have he' : (upE (mo m) s == 0) = false := beq_eq_false_iff_ne.2 he
      clear hL he
      generalize hg : upE (mo m) s = e at *
      have HG := Lib.hid hg
      clear hg
      go_enter Try.func7, Try.ntmps7
      go_wp2_with fail
      refine (unpack_c s m _ (by omega) hm1 hm2).mono ?_
      rintro E w1 ⟨ao1, cap1, rfl, ho1, hb⟩
      rw [HL.out, HG.out]
      clear ho1
      go_wp2_with fail
      refine (works_c _).mono ?_
      rintro E w9 ⟨rfl, hb9⟩
      go_wp2
      go_ret
      exact ⟨rfl, hb.trans (hb9.mono hb.size)⟩
set_option maxHeartbeats 4000000 in
theorem lawPacks (a : Option Addr) (cap : Nat) (l : List UInt8) (w : World) (h : IArg w a l.length cap l) :
    Calls Try.prog 4 #[.slice a l.length cap] w (Yes w) := by
  obtain ⟨_, hc, hm, hn, hi⟩ := h
  have hm' := hm
  simp only [maxLen] at hm'
  have HI := Lib.hid hi
  clear hi
  by_cases h15 : 1500 < l.length
  · go_enter Try.func4, Try.ntmps4
    go_wp2_with fail
    refine (works_c _).mono ?_
    rintro E w9 ⟨rfl, hb9⟩
    go_wp2
    go_ret
    exact ⟨rfl, hb9⟩
  · obtain ⟨i0, hi0, hz0, hz1, hz2⟩ := info_parts info_in
    have HI0 := Lib.hid hi0
    have HZ0 := Lib.hid hz0
    have HZ1 := Lib.hid hz1
    have HZ2 := Lib.hid hz2
    clear hi0 hz0 hz1 hz2
    by_cases h0 : l.length = 0
    · have e := List.eq_nil_of_length_eq_zero h0
      subst e
      have hown : w.ownsRow w.heap.size 22 1 (.slice none 0 0) 0 [] := World.ownsRow_nil _ _ _ _
      cases a with
      | none =>
        obtain ⟨_, rfl⟩ := hn rfl
        clear hn
        go_enter Try.func4, Try.ntmps4
        go_wp2_with (at_builtin; refine wpList_append_own_none rfl (.tmp 8) (.tmp 9) 27 rfl w.heap.size 22 i0 1 Try.underlying27 HI0.out (.slice none 0 0) 0 [] (by simp [Act.eval]) hown (by simp [Act.eval]) ?_)
        have hi1 := ins_nil w none
        have hb1 := Below.refl w.heap.size w
        have hcp1 : ([] : List UInt8).length ≤ 0 := by simp
        have hcm1 : 0 ≤ maxLen := by simp
        go_wp2_with fail
        refine (pack_c none 0 [] _ hi1 (by first | omega | simp) hcp1 hcm1).mono ?_
        rintro E w2 ⟨rfl, hb2⟩
        have hb := hb1.trans (hb2.mono hb1.size)
        have hi2 := ins_below hi1 hb2 (Nat.le_refl _)
        have hl2 := ins_below HI.out hb (Nat.le_refl _)
        clear hi1 hb1 hb2
        go_wp2_with fail
        refine (refPack none 0 [] _ hl2 (by first | omega | simp)).mono ?_
        rintro E w3 ⟨rfl, hg3⟩
        replace hb := hb.trans (grown_nb hg3 (by simp) hb.size)
        have hi3 := ins_below hi2 (below_of_grown hg3) (Nat.le_refl _)
        have hl3 := ins_below hl2 (below_of_grown hg3) (Nat.le_refl _)
        have hq : ((str (pk [])).toList == (str (pk [])).toList) = true := beq_self_eq_true _
        clear hg3 hi2 hl2
        go_wp2_with fail
        refine (predict_c none 0 [] _ hi3 (by simp only [maxLen]; first | omega | simp)).mono ?_
        rintro E w4 ⟨rfl, rfl⟩
        go_wp2_with fail
        refine (refPredict none 0 [] _ hl3 (by first | omega | simp)).mono ?_
        rintro E w4 ⟨rfl, rfl⟩
        go_wp2_with fail
        refine (refSame none none 0 0 [] _ (by first | omega | simp) hi3 hl3).mono ?_
        rintro E w5 ⟨rfl, hg5⟩
        replace hb := hb.trans (grown_nb hg5 (by simp) hb.size)
        clear hg5 hi3 hl3
        go_wp2_with fail
        refine (works_c _).mono ?_
        rintro E w9 ⟨rfl, hb9⟩
        go_wp2
        go_ret
        exact ⟨rfl, hb.trans (hb9.mono hb.size)⟩
      | some ad =>
        clear hn
        go_enter Try.func4, Try.ntmps4
        go_wp2_with (at_builtin; refine wpList_append_own w rfl (.tmp 8) (.tmp 9) 27 rfl w.heap.size 22 i0 (.int .u8 0) 1 1 Try.underlying27 HI0.out HZ0.out HZ1.out HZ2.out rfl (by decide) (.slice none 0 0) 0 [] (by simp [Act.eval]) hown ad 0 cap [] (by simp [Act.eval]) rfl (by simp) (by simp) (by simp [maxLen]) (by omega) (Nat.le_refl _) ?_; intro v' w1 hown1 hgr hnil; obtain rfl := hnil.2 ⟨rfl, rfl⟩)
        have hi1 := ins_nil w1 none
        have hb1 : Below w.heap.size w w1 := grown_nb hgr (by simp [Value.ownBlock]) (Nat.le_refl _)
        have hcp1 : ([] : List UInt8).length ≤ 0 := by simp
        have hcm1 : 0 ≤ maxLen := by simp
        clear hgr hown1 hnil
        go_wp2_with fail
        refine (pack_c none 0 [] _ hi1 (by first | omega | simp) hcp1 hcm1).mono ?_
        rintro E w2 ⟨rfl, hb2⟩
        have hb := hb1.trans (hb2.mono hb1.size)
        have hi2 := ins_below hi1 hb2 (Nat.le_refl _)
        have hl2 := ins_below HI.out hb (Nat.le_refl _)
        clear hi1 hb1 hb2
        go_wp2_with fail
        refine (refPack (some ad) cap [] _ hl2 (by first | omega | simp)).mono ?_
        rintro E w3 ⟨rfl, hg3⟩
        replace hb := hb.trans (grown_nb hg3 (by simp) hb.size)
        have hi3 := ins_below hi2 (below_of_grown hg3) (Nat.le_refl _)
        have hl3 := ins_below hl2 (below_of_grown hg3) (Nat.le_refl _)
        have hq : ((str (pk [])).toList == (str (pk [])).toList) = true := beq_self_eq_true _
        clear hg3 hi2 hl2
        go_wp2_with fail
        refine (predict_c none 0 [] _ hi3 (by simp only [maxLen]; first | omega | simp)).mono ?_
        rintro E w4 ⟨rfl, rfl⟩
        go_wp2_with fail
        refine (refPredict (some ad) cap [] _ hl3 (by first | omega | simp)).mono ?_
        rintro E w4 ⟨rfl, rfl⟩
        go_wp2_with fail
        refine (refSame none (some ad) 0 cap [] _ (by first | omega | simp) hi3 hl3).mono ?_
        rintro E w5 ⟨rfl, hg5⟩
        replace hb := hb.trans (grown_nb hg5 (by simp) hb.size)
        clear hg5 hi3 hl3
        go_wp2_with fail
        refine (works_c _).mono ?_
        rintro E w9 ⟨rfl, hb9⟩
        go_wp2
        go_ret
        exact ⟨rfl, hb.trans (hb9.mono hb.size)⟩
    · obtain ⟨b, o, rfl, _⟩ := HI.out 0 (by omega)
      clear hn
      have hown : w.ownsRow w.heap.size 22 1 (.slice none 0 0) 0 [] := World.ownsRow_nil _ _ _ _
      have hnews := news_at HI.out
      have HN := Lib.hid hnews
      clear hnews
      go_enter Try.func4, Try.ntmps4
      go_wp2_with (at_builtin; refine wpList_append_lies w rfl (.tmp 8) (.tmp 9) 27 rfl w.heap.size 22 i0 (.int .u8 0) 1 1 Try.underlying27 HI0.out HZ0.out HZ1.out HZ2.out rfl (by decide) (.slice none 0 0) 0 [] (by simp [Act.eval]) hown ⟨b, o, none⟩ l.length cap (bvs l) (by simp [Act.eval]) (by simp [bvs_length]) HN.out bvs_one (by omega) (by simp only [maxLen]; omega) (by omega) (Nat.le_refl _) _ rfl ?_; intro g' cap' w1 hown1 hgr hat hlt1)
      rw [Nat.zero_add, List.nil_append] at hown1
      have hi1 : Ins w1 (some ⟨g', 0, none⟩) l := ins_own hown1
      obtain ⟨hcp1, hcm1⟩ := own_cap hown1
      have hb1 : Below w.heap.size w w1 := grown_nb hgr (by simp [Value.ownBlock]) (Nat.le_refl _)
      clear hgr hown1 hat hlt1
      try rw [Nat.zero_add]
      go_wp2_with fail
      refine (pack_c (some ⟨g', 0, none⟩) cap' l _ hi1 (by first | omega | simp) hcp1 hcm1).mono ?_
      rintro E w2 ⟨rfl, hb2⟩
      have hb := hb1.trans (hb2.mono hb1.size)
      have hi2 := ins_below hi1 hb2 (Nat.le_refl _)
      have hl2 := ins_below HI.out hb (Nat.le_refl _)
      clear hi1 hb1 hb2
      go_wp2_with fail
      refine (refPack (some ⟨b, o, none⟩) cap l _ hl2 (by first | omega | simp)).mono ?_
      rintro E w3 ⟨rfl, hg3⟩
      replace hb := hb.trans (grown_nb hg3 (by simp) hb.size)
      have hi3 := ins_below hi2 (below_of_grown hg3) (Nat.le_refl _)
      have hl3 := ins_below hl2 (below_of_grown hg3) (Nat.le_refl _)
      have hq : ((str (pk l)).toList == (str (pk l)).toList) = true := beq_self_eq_true _
      clear hg3 hi2 hl2
      go_wp2_with fail
      refine (predict_c (some ⟨g', 0, none⟩) cap' l _ hi3 (by simp only [maxLen]; first | omega | simp)).mono ?_
      rintro E w4 ⟨rfl, rfl⟩
      go_wp2_with fail
      refine (refPredict (some ⟨b, o, none⟩) cap l _ hl3 (by first | omega | simp)).mono ?_
      rintro E w4 ⟨rfl, rfl⟩
      go_wp2_with fail
      refine (refSame (some ⟨g', 0, none⟩) (some ⟨b, o, none⟩) cap' cap l _ (by first | omega | simp) hi3 hl3).mono ?_
      rintro E w5 ⟨rfl, hg5⟩
      replace hb := hb.trans (grown_nb hg5 (by simp) hb.size)
      clear hg5 hi3 hl3
      go_wp2_with fail
      refine (works_c _).mono ?_
      rintro E w9 ⟨rfl, hb9⟩
      go_wp2
      go_ret
      exact ⟨rfl, hb.trans (hb9.mono hb.size)⟩
theorem mo_nat {n : Nat} (h : n ≤ 4096) : mo (n : Int) = n := by unfold mo; omega
theorem mo_big {n : Nat} (h : 4096 ≤ n) : mo (n : Int) = 4096 := by unfold mo; omega
set_option maxHeartbeats 4000000 in
theorem lawBack (a : Option Addr) (cap : Nat) (l : List UInt8) (room cut : Nat) (w : World) (h : IArg w a l.length cap l) (hr : room < 65536) (hct : cut < 65536) :
    Calls Try.prog 6 #[.slice a l.length cap, .int .u16 room, .int .u16 cut] w (Yes w) := by
  obtain ⟨_, hc, hm, hn, hi⟩ := h
  have hm' := hm
  simp only [maxLen] at hm'
  by_cases h15 : 1500 < l.length
  · go_enter Try.func6, Try.ntmps6
    go_wp2_with fail
    refine (works_c _).mono ?_
    rintro E w9 ⟨rfl, hb9⟩
    go_wp2
    go_ret
    exact ⟨rfl, hb9⟩
  · have hlg := legalLaw a cap l w hi (by omega)
    have hok := m64_ok l
    have hml : (l.map m64).length ≤ 1500 := by simp; omega
    generalize l.map m64 = m at *
    have hpk : pk m = enc m := by unfold pk; rw [if_pos hok]
    have hE0 : upE (mo (m.length : Int)) (enc m) = 0 ∧ upL (mo (m.length : Int)) (enc m) = m := by
      have := up_enc (mo (m.length : Int)) m hok (by omega)
      rw [mo_nat (by omega)] at this ⊢
      rwa [if_pos (Nat.le_refl _), if_pos (Nat.le_refl _)] at this
    have hE1 : m.length ≤ room → upE (mo (room : Int)) (enc m) = 0 ∧ upL (mo (room : Int)) (enc m) = m := fun h => by
      have h2 : m.length ≤ mo (room : Int) := by unfold mo; omega
      have := up_enc (mo (room : Int)) m hok (by omega)
      rwa [if_pos h2, if_pos h2] at this
    have hE2 : room < m.length → upE (mo (room : Int)) (enc m) = 3 ∧ upL (mo (room : Int)) (enc m) = [] := fun h => by
      have h2 : ¬ m.length ≤ mo (room : Int) := by unfold mo; omega
      have := up_enc (mo (room : Int)) m hok (by omega)
      rwa [if_neg h2, if_neg h2] at this
    have hpos := enc_pos m
    have hlen := enc_len m
    have hcm : cut % (enc m).length < (enc m).length := Nat.mod_lt _ hpos
    have hT : upE (mo 4096) ((enc m).take (cut % (enc m).length)) = 10 := by
      rw [show mo 4096 = 4096 from rfl]
      exact up_cut m hok (by omega) _ hcm
    have hTL := upL_bad _ _ (show upE (mo 4096) ((enc m).take (cut % (enc m).length)) ≠ 0 by rw [hT]; decide)
    have hcutE := str_cut (enc m) (cut % (enc m).length)
    have htl : ((enc m).take (cut % (enc m).length)).length ≤ 65536 := by rw [List.length_take]; omega
    have hne : (str (enc m)).toList.isEmpty = false := by
      rw [str_empty]
      cases he : enc m with
      | nil => rw [he] at hpos; simp at hpos
      | cons b t => rfl
    have hsz := str_size (enc m)
    have HPK := Lib.hid hpk
    have HE0 := Lib.hid hE0
    have HE1 := Lib.hid hE1
    have HE2 := Lib.hid hE2
    have HT := Lib.hid (And.intro hT hTL)
    have HTL := Lib.hid htl
    clear hpk hE0 hE1 hE2 hT hTL htl hok hi hn
    generalize hen : enc m = s at *
    have HEN := Lib.hid hen
    clear hen
    have hrem : ((cut : Int) % (s.length : Int)) = ((cut % s.length : Nat) : Int) := rfl
    generalize hcq : cut % s.length = q at *
    clear hcq
    go_enter Try.func6, Try.ntmps6
    go_wp2_with fail
    refine hlg.mono ?_
    rintro E w1 ⟨v, rfl, ao1, cap1, rfl, ho1, hb, hs1⟩
    have hi1 := ins_own ho1
    obtain ⟨k1, k2⟩ := own_cap ho1
    clear ho1 hlg hs1
    go_wp2_with fail
    refine (pack_c ao1 cap1 m _ hi1 (by omega) k1 k2).mono ?_
    rintro E w2 ⟨rfl, hb2⟩
    rw [HPK.out]
    replace hi1 := ins_below hi1 hb2 (Nat.le_refl _)
    replace hb := hb.trans (hb2.mono hb.size)
    clear hb2
    go_wp2_with fail
    refine (unpack_c s (m.length : Int) _ (by omega) (by omega) (by omega)).mono ?_
    rintro E w3 ⟨ao3, cap3, rfl, ho3, hb3⟩
    rw [HE0.out.1]
    rw [HE0.out.2] at ho3 ⊢
    replace hi1 := ins_below hi1 hb3 (Nat.le_refl _)
    replace hb := hb.trans (hb3.mono hb.size)
    have hi3 := ins_own ho3
    clear hb3 ho3
    go_wp2_with fail
    refine (refSame ao3 ao1 cap3 cap1 m _ (by omega) hi3 hi1).mono ?_
    rintro E w4 ⟨rfl, hg4⟩
    replace hi1 := ins_below hi1 (below_of_grown hg4) (Nat.le_refl _)
    replace hb := hb.trans (grown_nb hg4 (by simp) hb.size)
    clear hg4 hi3
    go_wp2_with fail
    refine (unpack_c s (room : Int) _ (by omega) (by omega) (by omega)).mono ?_
    rintro E w5 ⟨ao5, cap5, rfl, ho5, hb5⟩
    replace hi1 := ins_below hi1 hb5 (Nat.le_refl _)
    replace hb := hb.trans (hb5.mono hb.size)
    clear hb5
    by_cases hrm : m.length ≤ room
    · obtain ⟨f1, f2⟩ := HE1.out hrm
      rw [f1]
      rw [f2] at ho5 ⊢
      clear f1 f2
      have hi5 := ins_own ho5
      clear ho5
      go_wp2_with fail
      refine (refSame ao5 ao1 cap5 cap1 m _ (by omega) hi5 hi1).mono ?_
      rintro E w6 ⟨rfl, hg6⟩
      replace hb := hb.trans (grown_nb hg6 (by simp) hb.size)
      clear hg6 hi5 hi1
      go_wp2_with fail
      refine (unpack_c (s.take q) 4096 _ (by have := HTL.out; omega) (by omega) (by omega)).mono ?_
      rintro E w7 ⟨ao7, cap7, rfl, ho7, hb7⟩
      rw [HT.out.1, HT.out.2]
      replace hb := hb.trans (hb7.mono hb.size)
      clear hb7 ho7
      go_wp2_with fail
      refine (works_c _).mono ?_
      rintro E w9 ⟨rfl, hb9⟩
      go_wp2
      go_ret
      exact ⟨rfl, hb.trans (hb9.mono hb.size)⟩
    · obtain ⟨f1, f2⟩ := HE2.out (by omega)
      rw [f1]
      rw [f2] at ho5 ⊢
      clear f1 f2 ho5 hi1
      go_wp2_with fail
      refine (unpack_c (s.take q) 4096 _ (by have := HTL.out; omega) (by omega) (by omega)).mono ?_
      rintro E w7 ⟨ao7, cap7, rfl, ho7, hb7⟩
      rw [HT.out.1, HT.out.2]
      replace hb := hb.trans (hb7.mono hb.size)
      clear hb7 ho7
      go_wp2_with fail
      refine (works_c _).mono ?_
      rintro E w9 ⟨rfl, hb9⟩
      go_wp2
      go_ret
      exact ⟨rfl, hb.trans (hb9.mono hb.size)⟩
end Go.Proofs.Ytkhecaohbmlnlaa
