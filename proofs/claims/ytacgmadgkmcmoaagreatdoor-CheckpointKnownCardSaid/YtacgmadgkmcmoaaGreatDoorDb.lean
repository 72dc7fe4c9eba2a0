/- Words on the program's disk in memory: what a step may turn; a file, its row; the map from names to files; all of them, in blocks apart. -/
import Derived.Test.YtacgmadgkmcmoaaGreatDoorRows
import Derived.Test.YtacgmadgkmcmoaaGreatDoorDa
import Derived.Maps.OwnSet
import Derived.Maps.OwnIn
namespace Go.Proofs.YtacgmadgkmcmoaaGreatDoor
open Go.RowKit
set_option linter.unusedVariables false

/-- Of what was there nothing has turned but blocks of S. -/
structure Tu (S : Nat → Prop) (w w' : World) : Prop where
  os : w'.os = w.os
  tape : w'.tape = w.tape
  output : w'.output = w.output
  size : w.heap.size ≤ w'.heap.size
  block : ∀ k, k < w.heap.size → ¬ S k → w'.heap[k]? = w.heap[k]?
section
variable {S S' : Nat → Prop} {w w' w'' : World} {g B : Nat} {t : TypeId} {cs : Array Value}
theorem Tu.refl (S : Nat → Prop) (w : World) : Tu S w w := ⟨rfl, rfl, rfl, Nat.le_refl _, fun _ _ _ => rfl⟩
theorem Tu.trans (h : Tu S w w') (k : Tu S' w' w'') (hs : ∀ x, x < w.heap.size → S' x → S x) : Tu S w w'' :=
  ⟨k.os.trans h.os, k.tape.trans h.tape, k.output.trans h.output, Nat.le_trans h.size k.size, fun i hi hn => (k.block i (Nat.lt_of_lt_of_le hi h.size) fun hx => hn (hs i hi hx)).trans (h.block i hi hn)⟩
theorem Tu.mono (h : Tu S w w') (hs : ∀ x, x < w.heap.size → S x → S' x) : Tu S' w w' := ⟨h.os, h.tape, h.output, h.size, fun i hi hn => h.block i hi fun hx => hn (hs i hi hx)⟩
theorem Tu.grown {row : Option Nat} (hg : w.grownBy w' row) : Tu (fun x => some x = row) w w' := ⟨hg.os, hg.tape, hg.output, hg.size, hg.block⟩
theorem Tu.new (hb : Below w.heap.size w w') : Tu S w w' := ⟨hb.os, hb.tape, hb.output, hb.size, fun i hi _ => hb.block i hi⟩
theorem Tu.fresh (hg : w.grownBy w' none) : Tu S w w' := ⟨hg.os, hg.tape, hg.output, hg.size, fun i hi _ => hg.block i hi (by simp)⟩
theorem Tu.below (h : Tu S w w') (hB : ∀ x, x < B → ¬ S x) (hle : B ≤ w.heap.size) : Below B w w' := ⟨h.os, h.tape, h.output, h.size, fun i hi => h.block i (Nat.lt_of_lt_of_le hi hle) (hB i hi)⟩
theorem Tu.draw (h : Tu S w w') : Tu S w w'.drew := ⟨h.os, h.tape, h.output, h.size, h.block⟩
theorem Cells.tu (h : Cells w g t cs) (k : Tu S w w') (hg : ¬ S g) : Cells w' g t cs := (k.block g h.lt hg).trans h
theorem row_tu {base : Nat} {e : TypeId} {size n : Nat} {v : Value} {xs : List Value} (h : w.ownsRow base e size v n xs) (k : Tu S w w') (hg : ∀ x, v.ownBlock = some x → ¬ S x) : w'.ownsRow base e size v n xs := by
  refine ⟨h.1, ?_⟩
  rcases h.2 with h2 | ⟨b, cap, cur, rfl, hb, hh, r⟩
  · exact .inl h2
  · exact .inr ⟨b, cap, cur, rfl, hb, (k.block b (Array.getElem?_eq_some_iff.1 hh).1 (hg b rfl)).trans hh, r⟩
theorem map_tu {P : Program} {kt : TypeId} {R : Value → Option (DataW Unit × List MemPlace)} {n : Nat} {D : DataW Unit} (h : w.ownsMap P kt R g n D) (k : Tu S w w') (hg : ¬ S g) : w'.ownsMap P kt R g n D := by
  have hlt := h.lt
  obtain ⟨es, clock, hb, r⟩ := h
  exact ⟨es, clock, (k.block g hlt hg).trans hb, r⟩
end

/-- A file in memory: its name, its block, its slice of bytes, how many of them are sure. -/
structure Fil where
  nm : List UInt8
  g : Nat
  ao : Option Addr
  cap : Nat
  bs : List UInt8
  su : Nat
abbrev Fil.v (f : Fil) : Value := .slice f.ao f.bs.length f.cap
def Fil.ent (f : Fil) : Ent := ⟨f.nm, f.bs, f.su⟩
/-- The file's own blocks. -/
def Fil.inn (f : Fil) (x : Nat) : Prop := x = f.g ∨ f.v.ownBlock = some x
structure FilAt (w : World) (f : Fil) : Prop where
  blk : Cells w f.g 129 #[f.v, .int .i64 f.su]
  row : w.ownsRow 0 5 1 f.v f.bs.length (bvs f.bs)
/-- How a pointer to a file reads: the block's number. -/
def DRf : Value → Option (DataW Unit × List MemPlace)
  | .pointer (some ⟨g, 0, none⟩) => some (.lit (.int .i64 g), [])
  | .pointer none => some (.nil, [])
  | _ => none
theorem DRf_ptr {v : Value} {g : Nat} {ps : List MemPlace} (h : DRf v = some (.lit (.int .i64 g), ps)) : v = .pointer (some ⟨g, 0, none⟩) := by
  unfold DRf at h
  split at h
  · simp only [Option.some.injEq, Prod.mk.injEq, DataW.lit.injEq, Lit.int.injEq, true_and] at h
    rw [show g = _ from (Int.ofNat_inj.1 h.1).symm]
  · cases h
  · cases h
theorem DRf_nil {v : Value} {ps : List MemPlace} (h : DRf v = some (.nil, ps)) : v = .pointer none := by
  unfold DRf at h
  split at h
  · cases h
  · rfl
  · cases h
def dat (f : Fil) : Lit × DataW Unit := (.string f.nm, .lit (.int .i64 f.g))
abbrev dmap (fs : List Fil) : DataW Unit := .map (fs.map dat)
theorem dat_ins (f : Fil) : ∀ fs : List Fil, DataW.insert (dat f) (fs.map dat) = (insK Fil.nm f fs).map dat
  | [] => rfl
  | x :: r => by
    have ih := dat_ins f r
    simp only [List.map_cons, DataW.insert, insK]
    rw [show (dat f).1.before (dat x).1 = bytesBefore f.nm x.nm from rfl]
    split
    · rfl
    · rw [ih, List.map_cons]
theorem dat_del (n : List UInt8) (fs : List Fil) : (dmap fs).del (.string n) = dmap (delK Fil.nm n fs) := by
  simp only [DataW.del, delK, List.filter_map]
  rfl
theorem dat_put (f : Fil) (fs : List Fil) : (dmap fs).put (.string f.nm) (.lit (.int .i64 f.g)) = dmap (insK Fil.nm f (delK Fil.nm f.nm fs)) := by
  have h := dat_del f.nm fs
  simp only [DataW.del] at h
  injection h with h
  simp only [DataW.put]
  rw [h]
  exact congrArg DataW.map (dat_ins f _)
theorem dat_at (n : List UInt8) (fs : List Fil) : (dmap fs).atKey (.string n) .nil = match fndK Fil.nm n fs with | some f => .lit (.int .i64 f.g) | none => .nil := by
  simp only [DataW.atKey, fndK, List.find?_map]
  rw [show ((fun p : Lit × DataW Unit => p.1.sameKey (.string n)) ∘ dat) = fun x => x.nm == n from rfl]
  cases List.find? (fun x => x.nm == n) fs <;> rfl
theorem dat_size (fs : List Fil) : Maps.size (dmap fs) = fs.length := by simp [Maps.size]
theorem dat_keys (fs : List Fil) : strKeys (dmap fs) = fs.map Fil.nm := by
  simp only [strKeys, List.map_map]
  rfl
theorem key_str : Maps.Keyed Tryz.prog 9 := Maps.string_keyed Tryz.underlying9
theorem key_of (n : List UInt8) (h : n.length ≤ maxLen) : keyOf Tryz.prog 9 (.string (str n)) = some (.string n) := by
  have h2 := Tryz.underlying9
  simp [keyOf, h2, mapKey, str_size, h, str_data]

/-- The disk's blocks: gd (the struct), m (the map), the files'. -/
def Foot (gd m : Nat) (fs : List Fil) (x : Nat) : Prop := x = gd ∨ x = m ∨ ∃ f ∈ fs, f.inn x
structure Dj (w : World) (gd m q : Nat) (fs : List Fil) : Prop where
  blk : Cells w gd 143 #[.int .i64 q, .map (some m)]
  map : w.ownsMap Tryz.prog 9 DRf m fs.length (dmap fs)
  fil : ∀ f ∈ fs, FilAt w f
  apart : fs.Pairwise fun a b => ∀ x, a.inn x → ¬ b.inn x
structure Dk (w : World) (gd m q : Nat) (fs : List Fil) : Prop extends Dj w gd m q fs where
  good : DGood q (fs.map Fil.ent)
section
variable {S S' : Nat → Prop} {w w' : World} {gd m q g : Nat} {f f' : Fil} {fs : List Fil}
theorem FilAt.tu (h : FilAt w f) (k : Tu S w w') (hs : ∀ x, f.inn x → ¬ S x) : FilAt w' f := ⟨h.blk.tu k (hs _ (.inl rfl)), row_tu h.row k fun x hx => hs x (.inr hx)⟩
theorem FilAt.lt (h : FilAt w f) {x : Nat} (hx : f.inn x) : x < w.heap.size := by
  rcases hx with rfl | hx
  · exact h.blk.lt
  · exact (h.row.lt x hx).2
theorem FilAt.ne (h : FilAt w f) : f.v.ownBlock ≠ some f.g := row_unlike h.row h.blk (by decide)
theorem Dj.lt (h : Dj w gd m q fs) {x : Nat} (hx : Foot gd m fs x) : x < w.heap.size := by
  rcases hx with rfl | rfl | ⟨f, hf, hx⟩
  · exact h.blk.lt
  · exact h.map.lt
  · exact (h.fil f hf).lt hx
theorem Dj.tu (h : Dj w gd m q fs) (k : Tu S w w') (hs : ∀ x, Foot gd m fs x → ¬ S x) : Dj w' gd m q fs :=
  ⟨h.blk.tu k (hs _ (.inl rfl)), map_tu h.map k (hs _ (.inr (.inl rfl))), fun f hf => (h.fil f hf).tu k fun x hx => hs x (.inr (.inr ⟨f, hf, hx⟩)), h.apart⟩
theorem Dk.tu (h : Dk w gd m q fs) (k : Tu S w w') (hs : ∀ x, Foot gd m fs x → ¬ S x) : Dk w' gd m q fs := ⟨h.toDj.tu k hs, h.good⟩
theorem Dj.new (h : Dj w gd m q fs) (k : Below w.heap.size w w') : Dj w' gd m q fs := h.tu (S := fun _ => False) (.new k) fun _ _ h => h
theorem Dk.new (h : Dk w gd m q fs) (k : Below w.heap.size w w') : Dk w' gd m q fs := h.tu (S := fun _ => False) (.new k) fun _ _ h => h
theorem map_cells {P : Program} {kt : TypeId} {R : Value → Option (DataW Unit × List MemPlace)} {n : Nat} {D : DataW Unit} (h : w.ownsMap P kt R m n D) {t : TypeId} {cs : Array Value} (hc : Cells w g t cs) : m ≠ g := by
  rintro rfl
  obtain ⟨es, clock, hb, _⟩ := h
  unfold Cells at hc
  rw [hb] at hc
  cases hc
theorem map_row {P : Program} {kt : TypeId} {R : Value → Option (DataW Unit × List MemPlace)} {n : Nat} {D : DataW Unit} (h : w.ownsMap P kt R m n D) {e : TypeId} {k : Nat} {v : Value} {xs : List Value} (hr : w.ownsRow 0 e 1 v k xs) : v.ownBlock ≠ some m := by
  obtain ⟨es, clock, hb, _⟩ := h
  rcases hr.2 with ⟨rfl, _⟩ | ⟨b, cap, cur, rfl, _, hh, _⟩
  · simp [Value.ownBlock]
  · intro e
    have : b = m := by simpa [Value.ownBlock] using e
    subst this
    rw [hb] at hh
    cases hh
theorem Dj.gd_fil (h : Dj w gd m q fs) (hf : f ∈ fs) : ¬ f.inn gd := by
  rintro (e | e)
  · exact Cells.unlike h.blk (h.fil f hf).blk (by decide) e
  · exact row_unlike (h.fil f hf).row h.blk (by decide) e
theorem Dj.m_fil (h : Dj w gd m q fs) (hf : f ∈ fs) : ¬ f.inn m := by
  rintro (e | e)
  · exact map_cells h.map (h.fil f hf).blk e
  · exact map_row h.map (h.fil f hf).row e
theorem Dj.gd_m (h : Dj w gd m q fs) : m ≠ gd := map_cells h.map h.blk
theorem Dk.srt (h : Dk w gd m q fs) : Srt Fil.nm fs := by
  have := h.good.srt
  unfold Srt at this ⊢
  rw [List.pairwise_map] at this
  exact this
theorem Dj.fit (h : Dj w gd m q fs) {n : Nat} (hn : fs.length ≤ n) : w.ownsMap Tryz.prog 9 DRf m n (dmap fs) := h.map.mono hn
/-- A map's bound is as many as it has. -/
theorem map_fit {P : Program} {kt : TypeId} {R : Value → Option (DataW Unit × List MemPlace)} {n : Nat} (h : w.ownsMap P kt R m n (dmap fs)) : w.ownsMap P kt R m fs.length (dmap fs) := by
  obtain ⟨es, clock, hb, F, hs, hD⟩ := h
  refine ⟨es, clock, hb, F, ?_, hD⟩
  have := congrArg Maps.size hD
  rw [dat_size] at this
  rw [this]
  simp [Maps.size, length_sorted]
/-- One file has turned: its blocks are its own, or new. -/
theorem Dk.turn {A B : List Fil} (h : Dk w gd m q (A ++ f :: B)) (k : Tu f.inn w w') (hf : FilAt w' f') (hg : f'.g = f.g) (hn : f'.nm = f.nm) (hi : ∀ x, f'.inn x → f.inn x ∨ w.heap.size ≤ x)
    (hG : DGood q ((A ++ f' :: B).map Fil.ent)) : Dk w' gd m q (A ++ f' :: B) := by
  have hap := List.pairwise_append.1 h.apart
  have hap2 := List.pairwise_cons.1 hap.2.1
  have hd : (A ++ f' :: B).map dat = (A ++ f :: B).map dat := by simp [dat, hg, hn]
  have hl : (A ++ f' :: B).length = (A ++ f :: B).length := by simp
  refine ⟨⟨h.blk.tu k (h.gd_fil (by simp)), ?_, ?_, ?_⟩, hG⟩
  · rw [hl]
    have := map_tu h.map k (h.m_fil (by simp))
    unfold dmap at this ⊢
    rw [hd]; exact this
  · intro x hx
    rcases List.mem_append.1 hx with hx | hx
    · exact (h.fil x (by simp [hx])).tu k fun y hy => hap.2.2 x hx f (by simp) y hy
    · rcases List.mem_cons.1 hx with rfl | hx
      · exact hf
      · exact (h.fil x (by simp [hx])).tu k fun y hy hf => hap2.1 x hx y hf hy
  · refine List.pairwise_append.2 ⟨hap.1, List.pairwise_cons.2 ⟨fun x hx y hy hxy => ?_, hap2.2⟩, fun x hx z hz y hxy hzy => ?_⟩
    · rcases hi y hy with e | e
      · exact hap2.1 x hx y e hxy
      · have := (h.fil x (by simp [hx])).lt hxy; omega
    · rcases List.mem_cons.1 hz with rfl | hz
      · rcases hi y hzy with e | e
        · exact hap.2.2 x hx f (by simp) y hxy e
        · have := (h.fil x (by simp [hx])).lt hxy; omega
      · exact hap.2.2 x hx z (by simp [hz]) y hxy hzy
/-- The map has turned, and nothing else: fewer files. -/
theorem Dj.less (h : Dj w gd m q fs) {fs' : List Fil} (k : Tu (fun x => x = m) w w') (hm : w'.ownsMap Tryz.prog 9 DRf m fs'.length (dmap fs')) (hs : fs'.Sublist fs) : Dj w' gd m q fs' :=
  ⟨h.blk.tu k (fun e => h.gd_m e.symm), hm, fun f hf => (h.fil f (hs.subset hf)).tu k fun x hx e => h.m_fil (hs.subset hf) (e ▸ hx), h.apart.sublist hs⟩
/-- .. and one file more, apart from the others. -/
theorem Dj.more (h : Dj w gd m q fs) (k : Tu (fun x => x = m) w w') (hm : w'.ownsMap Tryz.prog 9 DRf m (insK Fil.nm f fs).length (dmap (insK Fil.nm f fs))) (hf : FilAt w' f)
    (ha : ∀ x ∈ fs, ∀ y, f.inn y → ¬ x.inn y) : Dj w' gd m q (insK Fil.nm f fs) := by
  refine ⟨h.blk.tu k (fun e => h.gd_m e.symm), hm, fun x hx => ?_, ?_⟩
  · rcases insK_mem.1 hx with rfl | hx
    · exact hf
    · exact (h.fil x hx).tu k fun y hy e => h.m_fil hx (e ▸ hy)
  · have : (f :: fs).Pairwise fun a b => ∀ x, a.inn x → ¬ b.inn x := List.pairwise_cons.2 ⟨fun x hx => ha x hx, h.apart⟩
    exact ((insK_perm f fs).symm.pairwise_iff (fun {a b} hab x hx hy => hab x hy hx)).1 this
/-- A file put under its name: who bore the name goes. -/
theorem Dj.put (h : Dj w gd m q fs) (k : Tu (fun x => x = m) w w') (hm : w'.ownsMap Tryz.prog 9 DRf m (insK Fil.nm f (delK Fil.nm f.nm fs)).length (dmap (insK Fil.nm f (delK Fil.nm f.nm fs)))) (hf : FilAt w' f)
    (ha : ∀ x ∈ fs, x.nm ≠ f.nm → ∀ y, f.inn y → ¬ x.inn y) : Dj w' gd m q (insK Fil.nm f (delK Fil.nm f.nm fs)) := by
  refine ⟨h.blk.tu k (fun e => h.gd_m e.symm), hm, fun x hx => ?_, ?_⟩
  · rcases insK_mem.1 hx with rfl | hx
    · exact hf
    · have hx := (delK_mem.1 hx).1
      exact (h.fil x hx).tu k fun y hy e => h.m_fil hx (e ▸ hy)
  · have : (f :: delK Fil.nm f.nm fs).Pairwise fun a b => ∀ x, a.inn x → ¬ b.inn x := List.pairwise_cons.2 ⟨fun x hx => ha x (delK_mem.1 hx).1 (delK_mem.1 hx).2, h.apart.sublist List.filter_sublist⟩
    exact ((insK_perm f _).symm.pairwise_iff (fun {a b} hab x hx hy => hab x hy hx)).1 this
def Fil.key (f : Fil) : List UInt8 × Nat := (f.nm, f.g)
/-- One file has turned: found by its name. -/
theorem Dk.turnAt2 (h : Dk w gd m q fs) {n : List UInt8} (hf : fndK Fil.nm n fs = some f) (k : Tu f.inn w w') (hf' : FilAt w' f') (hg : f'.g = f.g) (hn : f'.nm = f.nm) (hi : ∀ x, f'.inn x → f.inn x ∨ w.heap.size ≤ x)
    (hG : DGood q (setE f'.ent (fs.map Fil.ent))) : ∃ fs', Dk w' gd m q fs' ∧ fs'.map Fil.ent = setE f'.ent (fs.map Fil.ent) ∧ (∀ x, Foot gd m fs' x → Foot gd m fs x ∨ f'.inn x) ∧ fs'.map Fil.key = fs.map Fil.key := by
  obtain ⟨A, B, rfl, _, e3, e4⟩ := fndK_parts h.srt hf
  have hnm := (fndK_some hf).2
  have keep : ∀ l : List Fil, (∀ y ∈ l, y.nm ≠ f'.nm) → setE f'.ent (l.map Fil.ent) = l.map Fil.ent := fun l hl => by
    unfold setE
    conv => rhs; rw [← List.map_id (l.map Fil.ent)]
    refine List.map_congr_left fun y hy => ?_
    obtain ⟨z, hz, rfl⟩ := List.mem_map.1 hy
    exact if_neg (hl z hz)
  have ka := keep A fun y hy e => nm_lt_ne (e3 y hy) (by rw [e, hn, hnm])
  have kb := keep B fun y hy e => nm_lt_ne (e4 y hy) (by rw [e, hn, hnm])
  have hE : setE f'.ent ((A ++ f :: B).map Fil.ent) = (A ++ f' :: B).map Fil.ent := by
    unfold setE at ka kb ⊢
    rw [List.map_append, List.map_append, List.map_cons, List.map_cons, List.map_append, List.map_cons, ka, kb, if_pos (show f.ent.nm = f'.ent.nm from hn.symm)]
  refine ⟨A ++ f' :: B, h.turn k hf' hg hn hi (hE ▸ hG), hE.symm, ?_, by simp [Fil.key, hg, hn]⟩
  rintro x (e | e | ⟨y, hy, hx⟩)
  · exact .inl (.inl e)
  · exact .inl (.inr (.inl e))
  · rcases List.mem_append.1 hy with hy | hy
    · exact .inl (.inr (.inr ⟨y, by simp [hy], hx⟩))
    · rcases List.mem_cons.1 hy with rfl | hy
      · exact .inr hx
      · exact .inl (.inr (.inr ⟨y, by simp [hy], hx⟩))
theorem Dk.turnAt (h : Dk w gd m q fs) {n : List UInt8} (hf : fndK Fil.nm n fs = some f) (k : Tu f.inn w w') (hf' : FilAt w' f') (hg : f'.g = f.g) (hn : f'.nm = f.nm) (hi : ∀ x, f'.inn x → f.inn x ∨ w.heap.size ≤ x)
    (hG : DGood q (setE f'.ent (fs.map Fil.ent))) : ∃ fs', Dk w' gd m q fs' ∧ fs'.map Fil.ent = setE f'.ent (fs.map Fil.ent) ∧ ∀ x, Foot gd m fs' x → Foot gd m fs x ∨ f'.inn x := by
  obtain ⟨fs', h1, h2, h3, _⟩ := h.turnAt2 hf k hf' hg hn hi hG
  exact ⟨fs', h1, h2, h3⟩
end
/-- The disk in blocks of S. -/
def DkS (S : Nat → Prop) (w : World) (v : Value) (q : Nat) (E : List Ent) : Prop :=
  ∃ gd m fs, v = .pointer (some ⟨gd, 0, none⟩) ∧ Dk w gd m q fs ∧ fs.map Fil.ent = E ∧ ∀ x, Foot gd m fs x → S x
section
variable {S S' : Nat → Prop} {w w' : World} {v : Value} {q : Nat} {E : List Ent}
theorem DkS.tu (h : DkS S w v q E) (k : Tu S' w w') (hs : ∀ x, x < w.heap.size → S x → ¬ S' x) : DkS S w' v q E := by
  obtain ⟨gd, m, fs, rfl, hd, rfl, hS⟩ := h
  exact ⟨gd, m, fs, rfl, hd.tu k fun x hx => hs x (hd.lt hx) (hS x hx), rfl, hS⟩
theorem DkS.mono (h : DkS S w v q E) (hs : ∀ x, x < w.heap.size → S x → S' x) : DkS S' w v q E := by
  obtain ⟨gd, m, fs, rfl, hd, rfl, hS⟩ := h
  exact ⟨gd, m, fs, rfl, hd, rfl, fun x hx => hs x (hd.lt hx) (hS x hx)⟩
theorem DkS.new (h : DkS S w v q E) (k : Below w.heap.size w w') : DkS S w' v q E := h.tu (S' := fun _ => False) (.new k) fun _ _ _ h => h
theorem DkS.good (h : DkS S w v q E) : DGood q E := by obtain ⟨gd, m, fs, rfl, hd, rfl, hS⟩ := h; exact hd.good
end
/-- No disk: nil, or one that was made neither by New nor by Copy. -/
def NilD (w : World) (v : Value) : Prop := v = .pointer none ∨ ∃ g q, v = .pointer (some ⟨g, 0, none⟩) ∧ Cells w g 143 #[.int .i64 q, .map none]
theorem NilD.new {w w' : World} {v : Value} (h : NilD w v) (k : Below w.heap.size w w') : NilD w' v := by
  rcases h with rfl | ⟨g, q, rfl, hc⟩
  · exact .inl rfl
  · exact .inr ⟨g, q, rfl, hc.below k hc.lt⟩
theorem ent_map (fs : List Fil) (n : List UInt8) : fnd n (fs.map Fil.ent) = (fndK Fil.nm n fs).map Fil.ent := fndK_map Fil.ent (fun _ => rfl) n fs
end Go.Proofs.YtacgmadgkmcmoaaGreatDoor
