/- The law's own helpers: some, torn, works. -/
import Derived.Test.YtecchaogpcpooaaDi
namespace Go.Proofs.Ytecchaogpcpooaa
open Go.RowKit Go.Shelf
set_option linter.unusedVariables false
set_option linter.unusedSimpArgs false
set_option maxRecDepth 100000

def nA : List UInt8 := [97]
def e0 : Ent := ⟨nA, [49, 50, 51, 52, 53], 3⟩
theorem strA : (⟨#[97]⟩ : ByteArray) = str nA := rfl
/-- What holds of the disk in a helper: in blocks from b on; below b nothing has turned. -/
structure Own (b : Nat) (w0 w : World) (v : Value) (q : Nat) (E : List Ent) : Prop where
  dk : DkS (fun x => b ≤ x) w v q E
  be : Below b w0 w
  le : b ≤ w0.heap.size
theorem Own.step {b : Nat} {w0 w w' : World} {v : Value} {q : Nat} {E E' : List Ent} (h : Own b w0 w v q E) (h1 : DkS (fun x => b ≤ x) w' v q E') (h2 : Tu (fun x => b ≤ x) w w') : Own b w0 w' v q E' :=
  ⟨h1, h.be.trans (h2.below (fun x hx => by omega) (Nat.le_trans h.le h.be.size)), h.le⟩
theorem Own.new {b : Nat} {w0 w w' : World} {v : Value} {q : Nat} {E : List Ent} (h : Own b w0 w v q E) (h1 : Below w.heap.size w w') : Own b w0 w' v q E :=
  ⟨h.dk.new h1, h.be.trans (h1.mono (Nat.le_trans h.le h.be.size)), h.le⟩
theorem Own.grow {b : Nat} {w0 w : World} {v : Value} {q : Nat} {E : List Ent} (h : Own b w0 w v q E) : ∀ x, w.heap.size ≤ x → b ≤ x := fun x hx => Nat.le_trans (Nat.le_trans h.le h.be.size) hx
theorem some_c (w : World) : Calls Try.prog 22 #[] w fun R w' => ∃ v, R = .returned v ∧ Own w.heap.size w w' v 10 [e0] := by
  go_enter Try.func22, Try.ntmps22
  go_wp2_with fail
  refine (new_c 10 w).mono ?_
  rintro R w1 ⟨hb, ⟨_, _, v, rfl, hd⟩ | ⟨hbad, _⟩⟩
  rotate_left
  · omega
  have o1 : Own w.heap.size w w1 v 10 [] := ⟨hd, hb, Nat.le_refl _⟩
  clear hd hb
  go_wp2_with fail
  refine (create_c nA w1 o1.dk o1.grow (by decide)).mono ?_
  rintro R w2 ⟨rfl, hd, ht⟩
  have o2 : Own w.heap.size w w2 v 10 [⟨nA, [], 0⟩] := o1.step hd ht
  clear hd ht o1
  go_wp2_with fail
  refine (append_c nA [49, 50, 51] w2 o2.dk o2.grow (by decide) (by decide)).mono ?_
  rintro R w3 ⟨rfl, hd, ht⟩
  have o3 : Own w.heap.size w w3 v 10 [⟨nA, [49, 50, 51], 0⟩] := o2.step hd ht
  clear hd ht o2
  go_wp2_with fail
  refine (sync_c nA w3 o3.dk (by decide)).mono ?_
  rintro R w4 ⟨rfl, hd, ht⟩
  have o4 : Own w.heap.size w w4 v 10 [⟨nA, [49, 50, 51], 3⟩] := o3.step hd ht
  clear hd ht o3
  go_wp2_with fail
  refine (append_c nA [52, 53] w4 o4.dk o4.grow (by decide) (by decide)).mono ?_
  rintro R w5 ⟨rfl, hd, ht⟩
  have o5 : Own w.heap.size w w5 v 10 [e0] := o4.step hd ht
  clear hd ht o4
  go_wp2
  go_ret
  exact ⟨v, rfl, o5⟩
theorem rd_one (f : Ent) (h : f.nm = nA) : rd [f] nA = f.bs ∧ sy [f] nA = f.su ∧ eFind [f] nA = 0 := by
  have hf : fnd nA [f] = some f := by simp [fndK, h]
  have hn : isNm nA = true := by decide
  exact ⟨by unfold rd; rw [hn, hf]; rfl, by unfold sy; rw [hn, hf]; rfl, by unfold eFind; rw [hn, hf]; rfl⟩
/-- What is left of it. -/
def tornB (ks : List Int) : List UInt8 := (tearE (numAt ks 0) e0).bs
theorem torn_c (w : World) {ao : Option Addr} {ks : List Int} (cap : Nat) (hi : Ints w ao ks) (hkl : ks.length ≤ maxLen) (hlt : ∀ a, ao = some a → a.block < w.heap.size) :
    Calls Try.prog 23 #[.slice ao ks.length cap] w fun R w' => R = .returned (.string (str (tornB ks))) ∧ Below w.heap.size w w' := by
  have hlen := tearE_len (f := e0) (by decide) (numAt ks 0)
  have h5 : (tearE (numAt ks 0) e0).bs.length ≤ 5 := by rw [hlen.1]; exact hlen.2
  have HI := Lib.hid hi
  have HL := Lib.hid hlt
  have HT : Hid (aCrash ks [e0] = [tearE (numAt ks 0) e0]) := rfl
  have HTB : Hid (tornB ks = (tearE (numAt ks 0) e0).bs) := rfl
  have HNM : Hid ((tearE (numAt ks 0) e0).nm = nA) := rfl
  clear hi hlt
  generalize tearE (numAt ks 0) e0 = f at *
  obtain ⟨l, hl⟩ : ∃ l, f.bs.length = l := ⟨_, rfl⟩
  have hsu : f.su = l := by rw [← hl]; exact hlen.1.symm
  have hbs : (str f.bs).size = l := by rw [str_size, hl]
  go_enter Try.func23, Try.ntmps23
  go_wp2_with fail
  refine (some_c w).mono ?_
  rintro R w1 ⟨v, rfl, o1⟩
  have O1 := Lib.hid o1
  have HI1 := Lib.hid (HI.out.tu (S := fun _ => False) (.new o1.be) (fun _ _ h => h))
  clear o1
  go_wp2_with fail
  refine (crash_s w1 O1.out.dk HI1.out hkl (fun a ha _ => ⟨by have := HL.out a ha; omega, by have := HL.out a ha; have := O1.out.be.size; omega⟩)).mono ?_
  rintro R w2 ⟨rfl, hd, ht⟩
  rw [HT.out] at hd
  have O2 := Lib.hid (O1.out.step hd ht)
  clear hd ht
  obtain ⟨r1, r2, r3⟩ := rd_one f HNM.out
  go_wp2_with fail
  refine (read_c nA w2 O2.out.dk (by decide)).mono ?_
  rintro R w3 ⟨rfl, hb3⟩
  rw [r1, r3]
  have O3 := Lib.hid (O2.out.new hb3)
  clear hb3
  go_wp2_with fail
  refine (synced_c nA w3 O3.out.dk (by decide)).mono ?_
  rintro R w4 ⟨rfl, hb4⟩
  rw [r2, hsu]
  have O4 := Lib.hid (O3.out.new hb4)
  clear hb4 r1 r2 r3
  go_wp2
  go_ret
  exact ⟨by rw [HTB.out]; rfl, O4.out.be⟩
theorem ints_none (w : World) : Ints w none [] := fun j h => by cases h
theorem ints_one (w : World) (k : Int) (h : -9223372036854775808 ≤ k ∧ k ≤ 9223372036854775807) : Ints (w.alloc (.cells #[.int .i64 k] 3)) (some ⟨w.heap.size, 0, none⟩) [k] := fun j hj => by
  have : j = 0 := by simp at hj; exact hj
  subst this
  exact ⟨w.heap.size, 0, rfl, by rw [(Cells.made w _ _).cell]; rfl, h⟩
theorem str_eq (l m : List UInt8) (h : l = m) : ((str l).toList == m) = true := by subst h; simp [str, ByteArray.toList_eq]
theorem works_c (w : World) : Calls Try.prog 10 #[] w fun R w' => R = .returned (.bool true) ∧ Below w.heap.size w w' := by
  have q1 := str_eq [49, 50, 51, 52, 53] [49, 50, 51, 52, 53] rfl
  have q2 := str_eq [49, 50, 51, 52] [49, 50, 51, 52] rfl
  have q3 := str_eq [49, 50, 51] [49, 50, 51] rfl
  go_enter Try.func10, Try.ntmps10
  go_wp2_with fail
  refine (some_c w).mono ?_
  rintro R w1 ⟨v, rfl, o1⟩
  have O1 := Lib.hid o1
  clear o1
  obtain ⟨r1, r2, r3⟩ := rd_one e0 rfl
  go_wp2_with fail
  refine (read_c nA w1 O1.out.dk (by decide)).mono ?_
  rintro R w2 ⟨rfl, hb2⟩
  rw [r1, r3]
  have O2 := Lib.hid (O1.out.new hb2)
  clear hb2
  have E0 : Hid (e0.bs = [49, 50, 51, 52, 53]) := rfl
  rw [E0.out]
  go_wp2_with fail
  refine (synced_c nA w2 O2.out.dk (by decide)).mono ?_
  rintro R w3 ⟨rfl, hb3⟩
  rw [r2, show e0.su = 3 from rfl]
  have O3 := Lib.hid (O2.out.new hb3)
  clear hb3 r1 r2 r3
  go_wp2_with fail
  refine (torn_c _ 1 (ints_one w3 1 (by decide)) (by decide) (fun a ha => by cases ha; simp)).mono ?_
  rintro R w4 ⟨rfl, hb4⟩
  rw [show tornB [1] = [49, 50, 51, 52] by decide +kernel]
  have O4 := Lib.hid ((O3.out.new (below_alloc w3 _)).new hb4)
  clear hb4
  go_wp2_with fail
  refine (torn_c _ 0 (ints_none w4) (by decide) (fun a ha => by cases ha)).mono ?_
  rintro R w5 ⟨rfl, hb5⟩
  rw [show tornB [] = [49, 50, 51] by decide +kernel]
  have O5 := Lib.hid (O4.out.new hb5)
  clear hb5
  go_wp2_with fail
  refine (append_c [98] [120] w5 O5.out.dk O5.out.grow (by decide) (by decide)).mono ?_
  rintro R w6 ⟨rfl, hd, ht⟩
  rw [show eAppend 10 [e0] [98] [120] = 5 by decide +kernel]
  have O6 := Lib.hid (O5.out.step hd ht)
  clear hd ht
  go_wp2
  go_ret
  exact ⟨by rfl, O6.out.be⟩
end Go.Proofs.Ytecchaogpcpooaa
