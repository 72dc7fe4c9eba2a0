/- What a power whose fuse never comes tells and has, at the examples' steps: plain, and Begin's and Append's contracts in these words. -/
import Derived.Test.YthnelnfefllhpaaGreatDoorCk
namespace Go.Proofs.YthnelnfefllhpaaGreatDoor
open Go.RowKit
set_option linter.unusedVariables false
set_option linter.unusedSimpArgs false
set_option maxRecDepth 20000

def pon (n : Nat) (E : List Ent) : Pw := ⟨-1, [], n, false, E⟩
theorem pw_on (k q n : Nat) (E : List Ent) (N t : List UInt8) : (pon n E).wr k q N t = pon (n + 1) (wrE k q E N t) ∧ (pon n E).wrc k q N t = wrR k q E N t := on_after n E _ _
section
variable {N : List UInt8} {b t : List UInt8} {s q n : Nat}
theorem on_begin (hN : isNm N = true) (h1 : t.length ≤ 65536) (h2 : t.length ≤ q) : bErr q N t (pon 0 []) = 0 ∧ bPow q N t (pon 0 []) = pon 3 [⟨N, t, t.length⟩] := by
  obtain ⟨c1, c2⟩ := one_create hN
  obtain ⟨a1, a2⟩ := one_append (b := []) (t := t) (s := 0) (q := q) hN (by simpa using h1) (by simpa using h2)
  obtain ⟨s1, s2⟩ := one_sync (b := t) (s := 0) hN
  rw [List.nil_append] at a2
  have p1 : bP q N t (pon 0 []) 1 = pon 1 [⟨N, [], 0⟩] := by
    show (pon 0 []).wr 0 q N t = _
    rw [(pw_on 0 q 0 [] N t).1]
    show pon 1 (aCreate [] N) = _
    rw [c2]
  have p2 : bP q N t (pon 0 []) 2 = pon 2 [⟨N, t, 0⟩] := by
    show (bP q N t (pon 0 []) 1).wr 1 q N t = _
    rw [p1, (pw_on 1 q 1 _ N t).1]
    show pon 2 (aAppend q [⟨N, [], 0⟩] N t) = _
    rw [a2]
  have p3 : bP q N t (pon 0 []) 3 = pon 3 [⟨N, t, t.length⟩] := by
    show (bP q N t (pon 0 []) 2).wr 2 q N t = _
    rw [p2, (pw_on 2 q 2 _ N t).1]
    show pon 3 (aSync [⟨N, t, 0⟩] N) = _
    rw [s2]
  have e0 : bC q N t (pon 0 []) 0 = 0 := by
    show (pon 0 []).wrc 0 q N t = _
    rw [(pw_on 0 q 0 [] N t).2]
    exact c1
  have e1 : bC q N t (pon 0 []) 1 = 0 := by
    show (bP q N t (pon 0 []) 1).wrc 1 q N t = _
    rw [p1, (pw_on 1 q 1 _ N t).2]
    exact a1
  have e2 : bC q N t (pon 0 []) 2 = 0 := by
    show (bP q N t (pon 0 []) 2).wrc 2 q N t = _
    rw [p2, (pw_on 2 q 2 _ N t).2]
    exact s1
  unfold bErr bPow
  rw [e0, e1, if_neg (fun h => h rfl), if_neg (fun h => h rfl), if_neg (fun h => h rfl), if_neg (fun h => h rfl)]
  exact ⟨e2, p3⟩
theorem on_there (hN : isNm N = true) : bErr q N t (pon n [⟨N, b, s⟩]) = 6 ∧ bPow q N t (pon n [⟨N, b, s⟩]) = pon (n + 1) [⟨N, b, s⟩] := by
  have c1 : eCreate [⟨N, b, s⟩] N = 6 := by unfold eCreate; rw [hN, fnd_one]; rfl
  have c2 : aCreate [⟨N, b, s⟩] N = [⟨N, b, s⟩] := by unfold aCreate; rw [c1]; rfl
  have p1 : bP q N t (pon n [⟨N, b, s⟩]) 1 = pon (n + 1) [⟨N, b, s⟩] := by
    show (pon n [⟨N, b, s⟩]).wr 0 q N t = _
    rw [(pw_on 0 q n _ N t).1]
    show pon (n + 1) (aCreate [⟨N, b, s⟩] N) = _
    rw [c2]
  have e0 : bC q N t (pon n [⟨N, b, s⟩]) 0 = 6 := by
    show (pon n [⟨N, b, s⟩]).wrc 0 q N t = _
    rw [(pw_on 0 q n _ N t).2]
    exact c1
  unfold bErr bPow
  rw [e0, if_pos (by decide), if_pos (by decide)]
  exact ⟨rfl, p1⟩
end
/-- Begin's and Append's answers at such a power. -/
def W2 : List Rc := [rH 1 5, rO 5 7]
theorem w2_len : (bys W2).length = 48 := by simp [W2, bys_cons, bys_nil, byR_H, byR_O]
def pE2 : List Ent := [⟨sgn 1, bys W2, 48⟩]
def pE3 : List Ent := [⟨sgn 1, bys W3, 48⟩]
theorem v1 : SBE (pon 0 []) 1000 (rO 5 7) [] = 4 ∧ SBP (pon 0 []) 1000 (rO 5 7) [] = pon 0 [] := ⟨if_neg (by decide), if_neg (by decide)⟩
theorem v2 : SBE (pon 0 []) 1000 (rH 1 5) [rH 1 5] = 4 ∧ SBP (pon 0 []) 1000 (rH 1 5) [rH 1 5] = pon 0 [] := ⟨if_neg (by decide), if_neg (by decide)⟩
theorem v3 : SBE (pon 0 []) 1000 (rH 1 5) [rO 5 64] = 4 ∧ SBP (pon 0 []) 1000 (rH 1 5) [rO 5 64] = pon 0 [] := ⟨if_neg (by decide), if_neg (by decide)⟩
theorem v4 : SBE (pon 0 []) 1000 (rH 1 5) [rO 5 7] = 0 ∧ SBP (pon 0 []) 1000 (rH 1 5) [rO 5 7] = pon 3 pE2 := by
  have h : wok (rH 1 5) [rO 5 7] = true := by decide
  have hl := w2_len
  obtain ⟨e, p⟩ := on_begin (N := sgn 1) (t := bys W2) (q := 1000) sgn_nm (by omega) (by omega)
  rw [hl] at p
  unfold SBE SBP
  rw [if_pos h, if_pos h]
  show (((bErr 1000 (sgn 1) (bys W2) (pon 0 []) : Nat) : Int)) = 0 ∧ bPow 1000 (sgn 1) (bys W2) (pon 0 []) = _
  rw [e]
  exact ⟨rfl, p⟩
theorem v5 : SBE (pon 3 pE2) 1000 (rH 1 5) [] = 6 ∧ SBP (pon 3 pE2) 1000 (rH 1 5) [] = pon 4 pE2 := by
  have h : wok (rH 1 5) [] = true := by decide
  obtain ⟨e, p⟩ := on_there (N := sgn 1) (b := bys W2) (s := 48) (t := bys [rH 1 5]) (q := 1000) (n := 3) sgn_nm
  unfold SBE SBP
  rw [if_pos h, if_pos h]
  show (((bErr 1000 (sgn 1) (bys [rH 1 5]) (pon 3 pE2) : Nat) : Int)) = 6 ∧ bPow 1000 (sgn 1) (bys [rH 1 5]) (pon 3 pE2) = _
  unfold pE2
  rw [e]
  exact ⟨rfl, p⟩
theorem v6 : SAE (pon 4 pE2) 1000 1 (rH 1 5) = 4 ∧ SAP (pon 4 pE2) 1000 1 (rH 1 5) = pon 4 pE2 := ⟨if_neg (by decide), if_neg (by decide)⟩
theorem v7 : SAE (pon 4 pE2) 1000 2 (rO 6 7) = 5 ∧ SAP (pon 4 pE2) 1000 2 (rO 6 7) = pon 5 pE2 := by
  have h : okB (rO 6 7) false = true := by decide
  have hf : fnd (sgn 2) pE2 = none := by
    have : (sgn 1 == sgn 2) = false := by decide
    simp [pE2, fndK, this]
  have hn : isNm (sgn 2) = true := by decide
  have c1 : eAppend 1000 pE2 (sgn 2) (byR (rO 6 7)) = 5 := by unfold eAppend; rw [hn, hf]; rfl
  have c2 : aAppend 1000 pE2 (sgn 2) (byR (rO 6 7)) = pE2 := by unfold aAppend; rw [c1]; rfl
  unfold SAE SAP
  rw [if_pos h, if_pos h, (pw_on 1 1000 4 pE2 _ _).1, (pw_on 1 1000 4 pE2 _ _).2]
  refine ⟨?_, ?_⟩
  · show (((eAppend 1000 pE2 (sgn 2) (byR (rO 6 7)) : Nat) : Int)) = 5
    rw [c1]; rfl
  · show pon 5 (aAppend 1000 pE2 (sgn 2) (byR (rO 6 7))) = _
    rw [c2]
theorem v8 : SAE (pon 5 pE2) 1000 1 (rS 5 7 9) = 0 ∧ SAP (pon 5 pE2) 1000 1 (rS 5 7 9) = pon 6 pE3 := by
  have h : okB (rS 5 7 9) false = true := by decide
  have hl := w2_len
  have hs := byR_S 5 7 9
  obtain ⟨a1, a2⟩ := one_append (N := sgn 1) (b := bys W2) (t := byR (rS 5 7 9)) (s := 48) (q := 1000) sgn_nm (by omega) (by omega)
  have e3 : bys W2 ++ byR (rS 5 7 9) = bys W3 := by rw [← bys_one (rS 5 7 9), ← bys_app]; rfl
  rw [e3] at a2
  unfold SAE SAP
  rw [if_pos h, if_pos h, (pw_on 1 1000 5 pE2 _ _).1, (pw_on 1 1000 5 pE2 _ _).2]
  refine ⟨?_, ?_⟩
  · show (((eAppend 1000 pE2 (sgn 1) (byR (rS 5 7 9)) : Nat) : Int)) = 0
    unfold pE2
    rw [a1]; rfl
  · show pon 6 (aAppend 1000 pE2 (sgn 1) (byR (rS 5 7 9))) = _
    unfold pE2
    rw [a2]; rfl
theorem v9 : (pon 6 pE3).rd (sgn 1) = bys W3 ∧ ((pon 6 pE3).rdc (sgn 1) : Int) = 0 := ⟨one_rd sgn_nm, congrArg Int.ofNat (one_sync (b := bys W3) (s := 48) sgn_nm).1⟩
section
variable {S : Nat → Prop} {g q : Nat} {dv : Value} {kc : Nat} {ko : Option Addr} {p p' : Pw}
theorem sbegin_v (e : Int) (h : Rc) (l : List Rc) (ao : Option Addr) (cap : Nat) (w : World) (hv : SBE p q h l = e ∧ SBP p q h l = p') (hp : PwC S w g dv q ko kc p) (hS : ∀ x, w.heap.size ≤ x → S x) (hf : h.fit) (hl : ∀ r ∈ l, r.fit) (hn : l.length ≤ 900) (ha : RcsAt w ao l) (hpn : p.n + 3 < 1000000) (ht : Tab w) :
    Calls Tryz.prog 9 #[.pointer (some ⟨g, 0, none⟩), .agg (rcs h), .slice ao l.length cap] w fun R w' => R = .returned (.int .i64 e) ∧ PwC S w' g dv q ko kc p' ∧ Tu (fun x => x = g ∨ S x) w w' := by
  obtain ⟨rfl, rfl⟩ := hv
  exact sbegin_c h l ao cap w hp hS hf hl hn ha hpn ht
theorem sappend_v (e : Int) (n : Nat) (r : Rc) (w : World) (hv : SAE p q n r = e ∧ SAP p q n r = p') (h : PwC S w g dv q ko kc p) (hS : ∀ x, w.heap.size ≤ x → S x) (hn : n < 18446744073709551616) (hf : r.fit) (hp : p.n < 1000000) (ht : Tab w) :
    Calls Tryz.prog 11 #[.pointer (some ⟨g, 0, none⟩), .int .u64 (n : Int), .agg (rcs r)] w fun R w' => R = .returned (.int .i64 e) ∧ PwC S w' g dv q ko kc p' ∧ Tu (fun x => x = g ∨ S x) w w' := by
  obtain ⟨rfl, rfl⟩ := hv
  exact sappend_c n r w h hS hn hf hp ht
theorem pread_v (e : Int) (m n : List UInt8) (w : World) (hv : p.rd n = m ∧ (p.rdc n : Int) = e) (h : PwC S w g dv q ko kc p) (hn : n.length ≤ maxLen) :
    Calls Tryz.prog 23 #[.pointer (some ⟨g, 0, none⟩), .string (str n)] w fun R w' => R = .returned (.tuple #[.string (str m), .int .i64 e]) ∧ Below w.heap.size w w' := by
  obtain ⟨rfl, rfl⟩ := hv
  exact pread_c n w h hn
theorem pwrites_v (w : World) (h : PwC S w g dv q ko kc (pon 0 [])) : Calls Tryz.prog 22 #[.pointer (some ⟨g, 0, none⟩)] w fun R w' => R = .returned (.int .i64 0) ∧ w = w' := pwrites_c w h
end
theorem o64_fit : (rO 5 64).fit := ⟨by simp [rO], by simp [rO], by simp [rO], by simp [rO], by simp [rO], by simp [rO], by simp [rO], by simp [rO], by simp [rO], by simp [rO]⟩
end Go.Proofs.YthnelnfefllhpaaGreatDoor
