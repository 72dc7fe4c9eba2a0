/- Frames of texts: the plain mathematics of layer 4. Nothing of the program. -/
import Derived.Test.YtgbieihobcindaaDoorNum
import Derived.Test.YtgbieihobcindaaDoorCrc
namespace Go.Proofs.YtgbieihobcindaaDoor
open Go.RowKit
set_option linter.unusedVariables false

theorem upd_lt' (c : Nat) (s : List UInt8) (hc : c < 4294967296) : upd c s < 4294967296 :=
  Nat.xor_lt_two_pow (n := 32) (runs_lt _ (Nat.xor_lt_two_pow (n := 32) (by omega) (by decide))) (by decide)
/-- The length that stands at the head; the sum behind it; the payload behind both. -/
def fn (l : List UInt8) : Nat := un (l.take 2)
def fsum (l : List UInt8) : Nat := un ((l.drop 2).take 4)
def fpay (l : List UInt8) : List UInt8 := (l.drop 6).take (fn l)
def fck (l : List UInt8) : Nat := upd 0 (l.take 2 ++ fpay l)
/-- What is wrong with the first frame of l: 0 if nothing is. -/
def fe (l : List UInt8) : Int :=
  if l.length < 6 then 10 else if 4096 < fn l then 3 else if l.length - 6 < fn l then 10 else if fck l ≠ fsum l then 9 else 0
/-- Its payload; nothing, if something is wrong. -/
def fp (l : List UInt8) : List UInt8 := if fe l = 0 then fpay l else []
theorem fe_short {l : List UInt8} (h : l.length < 6) : fe l = 10 := by unfold fe; rw [if_pos h]
theorem fe_long {l : List UInt8} (h : 6 ≤ l.length) (h2 : 4096 < fn l) : fe l = 3 := by unfold fe; rw [if_neg (by omega), if_pos h2]
theorem fe_torn {l : List UInt8} (h : 6 ≤ l.length) (h2 : fn l ≤ 4096) (h3 : l.length - 6 < fn l) : fe l = 10 := by unfold fe; rw [if_neg (by omega), if_neg (by omega), if_pos h3]
theorem fe_sum {l : List UInt8} (h : 6 ≤ l.length) (h2 : fn l ≤ 4096) (h3 : fn l ≤ l.length - 6) (h4 : fck l ≠ fsum l) : fe l = 9 := by unfold fe; rw [if_neg (by omega), if_neg (by omega), if_neg (by omega), if_pos h4]
theorem fe_ok {l : List UInt8} (h : 6 ≤ l.length) (h2 : fn l ≤ 4096) (h3 : fn l ≤ l.length - 6) (h4 : fck l = fsum l) : fe l = 0 := by unfold fe; rw [if_neg (by omega), if_neg (by omega), if_neg (by omega), if_neg (by omega)]
theorem fp_bad {l : List UInt8} (h : fe l ≠ 0) : fp l = [] := by unfold fp; rw [if_neg h]
theorem fp_ok {l : List UInt8} (h : fe l = 0) : fp l = fpay l := by unfold fp; rw [if_pos h]
theorem fe_zero {l : List UInt8} (h : fe l = 0) : 6 ≤ l.length ∧ fn l ≤ 4096 ∧ fn l ≤ l.length - 6 ∧ fck l = fsum l := by
  unfold fe at h
  (repeat' split at h) <;> first | omega | (refine ⟨?_, ?_, ?_, ?_⟩ <;> first | omega | skip)
theorem fe_set (l : List UInt8) : fe l = 0 ∨ fe l = 3 ∨ fe l = 9 ∨ fe l = 10 := by
  unfold fe
  (repeat' split) <;> simp
theorem fpay_len {l : List UInt8} (h3 : fn l ≤ l.length - 6) : (fpay l).length = fn l := by
  unfold fpay; rw [List.length_take, List.length_drop]; omega
theorem fp_len (l : List UInt8) : (fp l).length ≤ 4096 := by
  by_cases h : fe l = 0
  · obtain ⟨h1, h2, h3, _⟩ := fe_zero h
    rw [fp_ok h, fpay_len h3]; exact h2
  · rw [fp_bad h]; simp
theorem fp_room {l : List UInt8} (h : fe l = 0) : 6 + (fp l).length ≤ l.length := by
  obtain ⟨h1, h2, h3, _⟩ := fe_zero h
  rw [fp_ok h, fpay_len h3]; omega
/-- The frame of a text. -/
def head (s : List UInt8) : List UInt8 := le 2 s.length ++ le 4 (upd 0 (le 2 s.length ++ s))
def frm (s : List UInt8) : List UInt8 := head s ++ s
theorem head_len (s : List UInt8) : (head s).length = 6 := by simp [head, le_length]
theorem frm_len (s : List UInt8) : (frm s).length = 6 + s.length := by simp [frm, head_len]
theorem take2 (s m : List UInt8) : (head s ++ m).take 2 = le 2 s.length := by
  rw [head, List.append_assoc, List.take_append_of_le_length (by rw [le_length]; omega), List.take_of_length_le (by rw [le_length]; omega)]
theorem drop2 (s m : List UInt8) : ((head s ++ m).drop 2).take 4 = le 4 (upd 0 (le 2 s.length ++ s)) := by
  rw [head, List.append_assoc, List.drop_append_of_le_length (by rw [le_length]; omega), List.drop_of_length_le (by rw [le_length]; omega), List.nil_append, List.take_append_of_le_length (by rw [le_length]; omega), List.take_of_length_le (by rw [le_length]; omega)]
theorem drop6 (s m : List UInt8) : (head s ++ m).drop 6 = m := by
  rw [List.drop_append_of_le_length (by rw [head_len]; omega), List.drop_of_length_le (by rw [head_len]; omega), List.nil_append]
theorem fn_head (s m : List UInt8) (h : s.length < 65536) : fn (head s ++ m) = s.length := by
  rw [fn, take2, un_le]; exact Nat.mod_eq_of_lt (by simpa using h)
theorem fsum_head (s m : List UInt8) : fsum (head s ++ m) = upd 0 (le 2 s.length ++ s) := by
  rw [fsum, drop2, un_le]; exact Nat.mod_eq_of_lt (by have := upd_lt' 0 (le 2 s.length ++ s) (by omega); simpa using this)
/-- A frame is read, whatever stands behind it. -/
theorem frm_ok (s m : List UInt8) (h : s.length ≤ 4096) : fe (frm s ++ m) = 0 ∧ fp (frm s ++ m) = s := by
  have e : frm s ++ m = head s ++ (s ++ m) := by rw [frm, List.append_assoc]
  have hn : fn (frm s ++ m) = s.length := by rw [e]; exact fn_head _ _ (by omega)
  have hl : (frm s ++ m).length = 6 + s.length + m.length := by rw [List.length_append, frm_len]
  have hp : fpay (frm s ++ m) = s := by rw [fpay, hn, e, drop6]; simp
  have h0 : fe (frm s ++ m) = 0 := fe_ok (by omega) (by omega) (by omega) (by rw [fck, hp, e, take2, fsum_head])
  exact ⟨h0, by rw [fp_ok h0, hp]⟩
/-- A beginning of a frame is torn. -/
theorem frm_cut (s m : List UInt8) (k : Nat) (h : s.length ≤ 4096) (hk : k < 6 + s.length) : fe ((frm s ++ m).take k) = 10 := by
  have hl : ((frm s ++ m).take k).length = k := by rw [List.length_take, List.length_append, frm_len]; omega
  by_cases h6 : k < 6
  · exact fe_short (by omega)
  · have e : (frm s ++ m).take k = head s ++ (s ++ m).take (k - 6) := by
      rw [frm, List.append_assoc, List.take_append, head_len, List.take_of_length_le (by rw [head_len]; omega)]
    have hn : fn ((frm s ++ m).take k) = s.length := by rw [e]; exact fn_head _ _ (by omega)
    exact fe_torn (by omega) (by omega) (by omega)
/-- What was read is the frame of the payload. -/
theorem frm_back {l : List UInt8} (h : fe l = 0) : l = frm (fp l) ++ l.drop (6 + (fp l).length) := by
  obtain ⟨h1, h2, h3, h4⟩ := fe_zero h
  rw [fp_ok h]
  have hp := fpay_len h3
  have e2 : le 2 (fpay l).length = l.take 2 := by
    rw [hp, fn]
    have := le_un (l.take 2)
    rwa [show (l.take 2).length = 2 from by rw [List.length_take]; omega] at this
  have e4 : le 4 (fsum l) = (l.drop 2).take 4 := by
    rw [fsum]
    have := le_un ((l.drop 2).take 4)
    rwa [show ((l.drop 2).take 4).length = 4 from by rw [List.length_take, List.length_drop]; omega] at this
  rw [frm, head, e2, show upd 0 (l.take 2 ++ fpay l) = fsum l from h4, e4, hp]
  conv => lhs; rw [← List.take_append_drop 2 l, ← List.take_append_drop 4 (l.drop 2), ← List.take_append_drop (fn l) ((l.drop 2).drop 4)]
  simp only [List.drop_drop, List.append_assoc, fpay]

/-- What All tells of bytes. -/
structure Res where
  l : List (List UInt8)
  used : Nat
  err : Int
def all (s : List UInt8) : Res :=
  if h : s = [] then ⟨[], 0, 0⟩
  else if fe s = 0 then ⟨fp s :: (all (s.drop (6 + (fp s).length))).l, 6 + (fp s).length + (all (s.drop (6 + (fp s).length))).used, (all (s.drop (6 + (fp s).length))).err⟩
  else ⟨[], 0, fe s⟩
termination_by s.length
decreasing_by
  all_goals
    have : 0 < s.length := List.length_pos_iff.2 h
    rw [List.length_drop]; omega
theorem all_nil : all [] = ⟨[], 0, 0⟩ := by rw [all]; simp
theorem all_bad {s : List UInt8} (h : s ≠ []) (he : fe s ≠ 0) : all s = ⟨[], 0, fe s⟩ := by rw [all]; rw [dif_neg h, if_neg he]
theorem all_ok {s : List UInt8} (he : fe s = 0) : all s = ⟨fp s :: (all (s.drop (6 + (fp s).length))).l, 6 + (fp s).length + (all (s.drop (6 + (fp s).length))).used, (all (s.drop (6 + (fp s).length))).err⟩ := by
  have h : s ≠ [] := by rintro rfl; have := fp_room he; simp at this
  rw [all, dif_neg h, if_pos he]
theorem all_frm (p m : List UInt8) (h : p.length ≤ 4096) : all (frm p ++ m) = ⟨p :: (all m).l, 6 + p.length + (all m).used, (all m).err⟩ := by
  obtain ⟨h1, h2⟩ := frm_ok p m h
  have e : (frm p ++ m).drop (6 + (fp (frm p ++ m)).length) = m := by
    rw [h2, ← frm_len, List.drop_append_of_le_length (by omega), List.drop_of_length_le (by omega), List.nil_append]
  rw [all_ok h1, e, h2]
theorem all_used : ∀ (n : Nat) (s : List UInt8), s.length ≤ n → (all s).used ≤ s.length ∧ (all s).l.length ≤ s.length ∧ ((all s).err = 0 → (all s).used = s.length)
  | 0, s, hn => by
    have : s = [] := List.eq_nil_of_length_eq_zero (by omega)
    subst this; simp [all_nil]
  | n + 1, s, hn => by
    by_cases h : s = []
    · subst h; simp [all_nil]
    · by_cases he : fe s = 0
      · have hr := fp_room he
        have hd : (s.drop (6 + (fp s).length)).length = s.length - (6 + (fp s).length) := List.length_drop
        obtain ⟨a, b, c⟩ := all_used n (s.drop (6 + (fp s).length)) (by omega)
        rw [all_ok he]
        refine ⟨?_, ?_, fun h0 => ?_⟩
        · show 6 + (fp s).length + _ ≤ _; omega
        · show (_ :: _ : List (List UInt8)).length ≤ _; rw [List.length_cons]; omega
        · have := c h0; show 6 + (fp s).length + _ = _; omega
      · rw [all_bad h he]; exact ⟨by simp, by simp, fun h0 => absurd h0 he⟩
/-- What the range function goes through: payloads, and at last an error, if there is one. -/
structure Item where
  p : List UInt8
  e : Int
  hp : p.length ≤ 4096
def okI (p : List UInt8) (h : p.length ≤ 4096) : Item := ⟨p, 0, h⟩
def items (s : List UInt8) : List Item :=
  if h : s = [] then []
  else if fe s = 0 then ⟨fp s, 0, fp_len s⟩ :: items (s.drop (6 + (fp s).length))
  else [⟨[], fe s, by simp⟩]
termination_by s.length
decreasing_by
  have : 0 < s.length := List.length_pos_iff.2 h
  rw [List.length_drop]; omega
theorem items_nil : items [] = [] := by rw [items]; simp
theorem items_bad {s : List UInt8} (h : s ≠ []) (he : fe s ≠ 0) : items s = [⟨fp s, fe s, fp_len s⟩] := by
  rw [items, dif_neg h, if_neg he]; congr; exact (fp_bad he).symm
theorem items_ok {s : List UInt8} (he : fe s = 0) : items s = ⟨fp s, 0, fp_len s⟩ :: items (s.drop (6 + (fp s).length)) := by
  have h : s ≠ [] := by rintro rfl; have := fp_room he; simp at this
  rw [items, dif_neg h, if_pos he]
theorem items_first {s : List UInt8} (h : s ≠ []) : ∃ r, items s = ⟨fp s, fe s, fp_len s⟩ :: r := by
  by_cases he : fe s = 0
  · refine ⟨items (s.drop (6 + (fp s).length)), ?_⟩
    rw [items_ok he]
    congr 2
    exact he.symm
  · exact ⟨[], items_bad h he⟩
def pays (xs : List Item) : List (List UInt8) := xs.map (·.p)
def tot (ps : List (List UInt8)) : Nat := (ps.map (fun p => 6 + p.length)).sum
theorem tot_snoc (ps : List (List UInt8)) (p : List UInt8) : tot (ps ++ [p]) = tot ps + (6 + p.length) := by simp [tot]
theorem tot_cons (ps : List (List UInt8)) (p : List UInt8) : tot (p :: ps) = 6 + p.length + tot ps := by simp [tot]
theorem pays_snoc (xs : List Item) (x : Item) : pays (xs ++ [x]) = pays xs ++ [x.p] := by simp [pays]
/-- The items are what All tells. -/
theorem items_all : ∀ (n : Nat) (s : List UInt8), s.length ≤ n → (all s).used = tot (all s).l ∧
    (((all s).err = 0 ∧ pays (items s) = (all s).l ∧ ∀ x ∈ items s, x.e = 0) ∨
     ((all s).err ≠ 0 ∧ ∃ xs, items s = xs ++ [⟨[], (all s).err, by simp⟩] ∧ pays xs = (all s).l ∧ ∀ x ∈ xs, x.e = 0))
  | 0, s, hn => by
    have : s = [] := List.eq_nil_of_length_eq_zero (by omega)
    subst this; rw [all_nil, items_nil]; simp [tot, pays]
  | n + 1, s, hn => by
    by_cases h : s = []
    · subst h; rw [all_nil, items_nil]; simp [tot, pays]
    · by_cases he : fe s = 0
      · have hr := fp_room he
        have hd : (s.drop (6 + (fp s).length)).length = s.length - (6 + (fp s).length) := List.length_drop
        obtain ⟨a, b⟩ := items_all n (s.drop (6 + (fp s).length)) (by omega)
        rw [items_ok he, all_ok he]
        refine ⟨by show _ = tot (_ :: _); rw [tot_cons, a], ?_⟩
        rcases b with ⟨b1, b2, b3⟩ | ⟨b1, xs, b2, b3, b4⟩
        · refine .inl ⟨b1, ?_, ?_⟩
          · show fp s :: pays _ = _; rw [b2]
          · intro x hx
            rcases List.mem_cons.1 hx with rfl | hx
            · rfl
            · exact b3 x hx
        · refine .inr ⟨b1, ⟨fp s, 0, fp_len s⟩ :: xs, ?_, ?_, ?_⟩
          · rw [b2]; rfl
          · show fp s :: pays _ = _; rw [b3]
          · intro x hx
            rcases List.mem_cons.1 hx with rfl | hx
            · rfl
            · exact b4 x hx
      · rw [all_bad h he]
        refine ⟨by simp [tot], .inr ⟨he, [], ?_, rfl, by simp⟩⟩
        rw [items, dif_neg h, if_neg he]; rfl
theorem items_len : ∀ (n : Nat) (s : List UInt8), s.length ≤ n → (items s).length ≤ s.length
  | 0, s, hn => by
    have : s = [] := List.eq_nil_of_length_eq_zero (by omega)
    subst this; simp [items_nil]
  | n + 1, s, hn => by
    by_cases h : s = []
    · subst h; simp [items_nil]
    · have hpos := List.length_pos_iff.2 h
      by_cases he : fe s = 0
      · have hr := fp_room he
        have hd : (s.drop (6 + (fp s).length)).length = s.length - (6 + (fp s).length) := List.length_drop
        have := items_len n (s.drop (6 + (fp s).length)) (by omega)
        rw [items_ok he, List.length_cons]; omega
      · rw [items_bad h he]; simp; omega
end Go.Proofs.YtgbieihobcindaaDoor
