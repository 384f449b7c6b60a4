/- The abstract machine, part H: build, buildSlice, makeSlice. -/
import Derived.Test.YtegoncendpboiaaAmG
import Derived.Laws.Tables
namespace Go.Am
open Go.RowKit
variable {D : Nat → Prop}

def placesA (P : Program) (fields : Array Field) : Option (List (Nat × Nat)) := fields.toList.mapM fun f => (P.info? f.type).map fun i => (f.offset, i.size)

def fillA (place : Nat → Option (Nat × Nat)) : List AV → List (Nat × AV) → Option (List AV)
  | cs, [] => some cs
  | cs, (i, u) :: rest =>
    match place i with
    | some p => if u.known = true ∧ u.cells.length = p.2 ∧ p.1 + p.2 ≤ cs.length then fillA place (cs.take p.1 ++ (u.cells ++ cs.drop (p.1 + p.2))) rest else none
    | none => none

theorem foldl_splice : ∀ (vs : List Value) (off k : Nat) (cs : Array Value), (vs.zipIdx k).foldl (fun cs (x : Value × Nat) => cs.setIfInBounds (off + x.2) x.1) cs = spliceA cs (off + k) vs
  | [], _, _, _ => rfl
  | v :: r, off, k, cs => by
    simp only [List.zipIdx_cons, List.foldl_cons, spliceA]
    rw [foldl_splice r off (k + 1)]
    rfl

theorem fold_splice (vs : Array Value) (off : Nat) (cs : Array Value) : vs.zipIdx.foldl (fun cs (x : Value × Nat) => cs.setIfInBounds (off + x.2) x.1) cs = spliceA cs off vs.toList := by
  rw [← Array.foldl_toList, Array.toList_zipIdx]
  exact foldl_splice _ _ 0 _

section
variable {P : Program} {w : World} {φ : Places} {s : St} {env : List Value} {K : Nat → Prop}

def Pairs (D : Nat → Prop) (w : World) (φ : Places) (s : St) (cs : Array Value) (us : List AV) : Prop :=
  cs.size = us.length ∧ ∀ (j : Nat) (v : Value) (u : AV), cs[j]? = some v → us[j]? = some u → v.oneCell' = true ∧ VR D w φ s.rows s.ctr v u

theorem Pairs.splice {cs : Array Value} {us : List AV} (h : Pairs D w φ s cs us) {v : Value} {u : AV} (hv : VR D w φ s.rows s.ctr v u) (hk : u.known = true) {off : Nat} (hf : off + u.cells.length ≤ us.length) :
    Pairs D w φ s (spliceA cs off v.cells.toList) (us.take off ++ (u.cells ++ us.drop (off + u.cells.length))) := by
  obtain ⟨e1, e2⟩ := hv.cells hk
  refine ⟨by rw [spliceA_size, h.1]; simp; omega, fun j x y hx hy => ?_⟩
  rw [splice_get _ _ _ _ _ rfl hf] at hy
  rw [spliceA_get _ _ _ _ (by rw [h.1]; simp; omega)] at hx
  simp only [Array.length_toList] at hx
  by_cases hj : off ≤ j ∧ j < off + u.cells.length
  · rw [if_pos hj] at hy
    rw [if_pos (by omega)] at hx
    exact e2 _ x y (by simpa using hx) hy
  · rw [if_neg hj] at hy
    rw [if_neg (by omega)] at hx
    exact h.2 j x y hx hy

theorem fill_ok {place : Nat → Option (Nat × Nat)} : ∀ (parts : List (Nat × AV)) (vparts : List (Nat × Value)) (cs : Array Value) (us cells : List AV), Pairs D w φ s cs us →
    vparts.map (·.1) = parts.map (·.1) → (∀ (j : Nat) (x : Nat × Value) (y : Nat × AV), vparts[j]? = some x → parts[j]? = some y → VR D w φ s.rows s.ctr x.2 y.2) → fillA place us parts = some cells →
    ∃ cs', Instr.fill place cs vparts = some cs' ∧ Pairs D w φ s cs' cells
  | [], vparts, cs, us, cells, h, hm, hv, hf => by
    have : vparts = [] := by simpa using hm
    subst this
    simp only [fillA, Option.some.injEq] at hf
    subst hf
    exact ⟨cs, rfl, h⟩
  | (i, u) :: rest, vparts, cs, us, cells, h, hm, hv, hf => by
    cases vparts with
    | nil => simp at hm
    | cons x vrest =>
      obtain ⟨i', v⟩ := x
      simp only [List.map_cons, List.cons.injEq] at hm
      obtain ⟨rfl, hm⟩ := hm
      simp only [fillA] at hf
      split at hf
      · rename_i p hp
        split at hf
        · rename_i hc
          obtain ⟨hk, hl, hle⟩ := hc
          have hv0 := hv 0 (i', v) (i', u) rfl rfl
          obtain ⟨e1, e2⟩ := hv0.cells hk
          obtain ⟨cs', c1, c2⟩ := fill_ok rest vrest _ _ cells (h.splice hv0 hk (off := p.1) (by simp only at hl ⊢; omega)) hm (fun j x y hx hy => hv (j + 1) x y (by simpa using hx) (by simpa using hy)) (by simp only at hl ⊢; rw [hl]; exact hf)
          refine ⟨cs', ?_, c2⟩
          simp only [Instr.fill, hp]
          have h1 : v.cells.size = p.2 := by simp only at e1; omega
          have h2 : ¬ (p.1 + v.cells.size > cs.size) := by rw [h.1]; omega
          rw [if_neg (by simp [h1]; rw [h1] at h2; omega)]
          have := fold_splice v.cells p.1 cs
          rw [← c1]
          congr 1
        · cases hf
      · cases hf

theorem zero_pairs {z : Value} (h1 : z.cells.all (·.oneCell') = true) : Pairs D w φ s z.cells (z.cells.toList.map constAV) := by
  refine ⟨by simp, fun j x y hx hy => ?_⟩
  simp only [List.getElem?_map, Option.map_eq_some_iff] at hy
  obtain ⟨x', hx', rfl⟩ := hy
  have : x' = x := by simp at hx'; rw [hx] at hx'; cases hx'; rfl
  subst this
  rw [Array.all_eq_true] at h1
  obtain ⟨hj, rfl⟩ := Array.getElem?_eq_some_iff.1 hx
  exact ⟨h1 j hj, constAV_ok _ _ _ _ _⟩

theorem zeroOne_all {t : TypeId} {z : Value} (h : zeroOne P t = true) (hz : (P.info? t).bind (·.zero) = some z) : z.cells.all (·.oneCell') = true := by
  unfold zeroOne at h
  rw [hz] at h
  simpa using h

def aBuild (P : Program) (s : St) (t : TypeId) (parts : List (Nat × AV)) (k : AV → St → Prop) : Prop :=
  match P.underlying t with
  | some (.struct fields) =>
    match zeroCellsA P t, placesA P fields with
    | some cs, some places =>
      match fillA (places[·]?) cs parts with
      | some cells => zeroOne P t = true ∧ aTys P 3 t fun ts => k (.agg (s.ownAll ts cells).1) (s.ownAll ts cells).2
      | none => False
    | _, _ => False
  | _ => False

theorem aBuild_ok (h : SR D w φ env s) {t : TypeId} {parts : List (Nat × AV)} {vparts : Array (Nat × Value)} {k : AV → St → Prop} (hm : vparts.toList.map (·.1) = parts.map (·.1))
    (hv : ∀ (j : Nat) (x : Nat × Value) (y : Nat × AV), vparts.toList[j]? = some x → parts[j]? = some y → VR D w φ s.rows s.ctr x.2 y.2) (hk : aBuild P s t parts k) : Does D s.low P w φ env K (Instr.build t vparts) k := by
  unfold aBuild at hk
  split at hk
  · rename_i fields hd
    split at hk
    case h_2 => exact hk.elim
    rename_i cs places hcs hp
    split at hk
    case h_2 => exact hk.elim
    rename_i cells hf
    obtain ⟨h1, hk⟩ := hk
    obtain ⟨ts, hk⟩ := aTys_out _ _ _ hk
    obtain ⟨z, hz, rfl, hzz⟩ := zero_run hcs
    obtain ⟨cs', c1, c2⟩ := fill_ok parts vparts.toList z.cells _ cells (zero_pairs (zeroOne_all h1 hzz)) hm hv hf
    obtain ⟨φ1, a1, a2, a3, a4, a5, a6, a7⟩ := SR.ownAll ts cells h cs'.toList (by simpa using c2.1) (fun j x y hx hy => (c2.2 j x y (by simpa using hx) hy).2)
    refine ⟨.agg cs', _, w, φ1, _, ?_, a1, .agg _ _ (by rw [a2]; exact c2.1) (fun j v hj => ?_) (fun j v u hj hu => a3 j v u (by simpa using hj) hu), Keeps.refl _ _, fun g hg => .inl (a5 g hg), Lows.new (fun i hi => a6 i (by have h1 := h.lo; have h2 := h.len; omega)) (fun _ _ => rfl), a7, hk⟩
    · refine run_build w t vparts cs' ?_
      unfold Program.built
      cases hi : P.info? t with
      | none => simp [hi] at hzz
      | some it =>
        simp [hi] at hzz
        unfold placesA at hp
        simp only [hd, hzz, hp]
        simpa using c1
    · have hj' : j < cells.length := by rw [← c2.1]; exact (Array.getElem?_eq_some_iff.1 hj).1
      exact (c2.2 j v _ hj (List.getElem?_eq_getElem hj')).1
  · exact hk.elim

theorem flat_get (l : List AV) : ∀ (n j : Nat), j < n * l.length → ((List.replicate n l).flatten)[j]? = l[j % l.length]?
  | 0, j, h => by simp at h
  | n + 1, j, h => by
    rw [List.replicate_succ, List.flatten_cons]
    by_cases hj : j < l.length
    · rw [List.getElem?_append_left hj, Nat.mod_eq_of_lt hj]
    · have h2 : j < n * l.length + 1 * l.length := by rw [← Nat.add_mul]; exact h
      have h3 : j % l.length = (j - l.length) % l.length := Nat.mod_eq_sub_mod (by omega)
      rw [List.getElem?_append_right (by omega), flat_get l n (j - l.length) (by omega), h3]

theorem made_pairs {z : Value} (h1 : z.cells.all (·.oneCell') = true) (hs : 0 < z.cells.size) (n : Nat) : Pairs D w φ s (madeCells z.cells (n * z.cells.size)) ((List.replicate n (z.cells.toList.map constAV)).flatten) := by
  refine ⟨by simp [madeCells], fun j x y hx hy => ?_⟩
  have hj : j < n * z.cells.size := by
    have := (Array.getElem?_eq_some_iff.1 hx).1
    simpa [madeCells] using this
  rw [flat_get _ _ _ (by simpa using hj)] at hy
  simp only [List.length_map, Array.length_toList] at hy
  have hx' : z.cells[j % z.cells.size]? = some x := by
    have hm : j % z.cells.size < z.cells.size := Nat.mod_lt _ hs
    obtain ⟨hl, e⟩ := Array.getElem?_eq_some_iff.1 hx
    simp [madeCells] at e
    rw [Array.getElem?_eq_getElem hm, ← e]
    simp [hm]
  exact (zero_pairs (D := D) (w := w) (φ := φ) (s := s) h1).2 _ x y hx' hy

def bsz (P : Program) (t : TypeId) : Option Nat := (P.info? t).map (·.bytes)

/-- A list of cells, so many times. -/
def rep (n : Nat) : List AV → List AV
  | [u] => List.replicate n u
  | cs => (List.replicate n cs).flatten

theorem rep_eq (n : Nat) (cs : List AV) : rep n cs = (List.replicate n cs).flatten := by
  unfold rep
  split
  · induction n with
    | zero => rfl
    | succ n ih => rw [List.replicate_succ, List.replicate_succ, List.flatten_cons, ← ih]; rfl
  · rfl

def aMake (P : Program) (s : St) (t : TypeId) (l c : AV) (k : AV → St → Prop) : Prop :=
  match P.underlying t with
  | some (.slice e) =>
    match l, c with
    | .int _ l, .int _ c =>
      match zeroCellsA P e with
      | none => False
      | some cs => aSz P e fun z => (l ≤ c ∧ zeroOne P e = true ∧ cs.length = z ∧ (bsz P e).isSome = true) ∧ (0 ≤ l ∧ (((bsz P e).getD 0 : Nat) : Int) * c ≤ 281474976710656 ∧ c ≤ 9223372036854775807) ∧
          k (.ref s.rows.length s.ctr 0 l.toNat) (s.push ⟨s.ctr, e, z, rep c.toNat cs⟩)
    | _, _ => False
  | _ => False

theorem aMake_ok (h : SR D w φ env s) (hK : ∀ b, K b → b < w.heap.size) {t : TypeId} {l c : AV} {lv cv : Value} {k : AV → St → Prop} (hl : VR D w φ s.rows s.ctr lv l) (hc : VR D w φ s.rows s.ctr cv c) (hk : aMake P s t l c k) : Does D s.low P w φ env K (Instr.makeSlice t lv cv) k := by
  unfold aMake at hk
  split at hk
  · rename_i e hd
    split at hk
    · rename_i j l j' c
      split at hk
      case h_1 => exact hk.elim
      rename_i cs hcs
      have hk0 := aSz_out hk
      clear hk
      obtain ⟨z, hz, hz0, ⟨hlc, h1, hlen, hbs⟩, ⟨h0, hbytes, h63⟩, hk⟩ := hk0
      obtain ⟨b, hb⟩ := Option.isSome_iff_exists.1 hbs
      rw [hb, Option.getD_some] at hbytes
      rw [rep_eq] at hk
      have := hl.int_inv; subst this
      have := hc.int_inv; subst this
      obtain ⟨zv, hzr, rfl, hzz⟩ := zero_run hcs
      have hall := zeroOne_all h1 hzz
      have hzs : zv.cells.size = z := by simpa using hlen
      cases hi : P.info? e with
      | none => simp [hi] at hzz
      | some i =>
        simp [hi] at hzz
        have hsz : i.size = z := by simp [tsz, hi] at hz; exact hz
        have hby : i.bytes = b := by simp [bsz, hi] at hb; exact hb
        have hrun := run_make (P := P) w t e i zv hd hi hzz j j' l c h0 hlc (by rw [hby]; exact hbytes) h63
        have hp := made_pairs (D := D) (w := w) (φ := φ) (s := s) hall (by omega) c.toNat
        obtain ⟨b1, b2, b3⟩ := h.newBlock (madeCells zv.cells (c.toNat * i.size)) ((List.replicate c.toNat (zv.cells.toList.map constAV)).flatten) e z (by rw [hsz, ← hzs]; exact Nat.le_of_eq hp.1.symm) hz0 (fun j x y hx hy => hp.2 j x y (by rw [hzs, ← hsz]; exact hx) hy)
        refine ⟨_, _, _, _, _, hrun, b1, ?_, Keeps.alloc _ hK, fun g hg => ?_, Lows.new (fun i hi => List.getElem?_append_left (by have h1 := h.lo; have h2 := h.len; omega)) (fun b hb => Below.heap_alloc w _ b hb), rfl, hk⟩
        · refine .ref _ _ _ _ _ (by simp [St.push]) rfl fun r hr hver => .inr ⟨w.heap.size, _, c.toNat, madeCells zv.cells (c.toNat * i.size), ?_, rfl, by omega, ?_, ?_, fun _ => rfl, fun _ => ?_, ?_⟩
          · rw [← h.len]; simp [Places.snoc]
          · simp only [maxLen]; omega
          · have : r = ⟨s.ctr, e, z, (List.replicate c.toNat (zv.cells.toList.map constAV)).flatten⟩ := by
              simp only [St.push] at hr; rw [getElem?_snoc] at hr; simp at hr; exact hr.symm
            subst this; exact b3
          · have : r.size = z := by
              simp only [St.push] at hr; rw [getElem?_snoc] at hr; simp at hr; rw [← hr]
            rw [this, size_madeCells, hsz]
          · have : r.size = z := by
              simp only [St.push] at hr; rw [getElem?_snoc] at hr; simp at hr; rw [← hr]
            rw [this, size_madeCells, hsz]
            exact Nat.le_trans (by rw [Nat.zero_add]; exact Nat.le_refl _) (Nat.mul_le_mul_right z (by omega : l.toNat ≤ c.toNat))
        · rcases hg with hg | hg
          · exact .inl hg
          · cases hg; exact .inr (Nat.le_refl _)
    · exact hk.elim
  · exact hk.elim

def aBuildSlice (P : Program) (s : St) (t : TypeId) (len : Nat) (parts : List (Nat × AV)) (k : AV → St → Prop) : Prop :=
  match P.underlying t with
  | some (.slice e) =>
    match zeroCellsA P e with
    | none => False
    | some cs => aSz P e fun z =>
      match fillA (fun i => some (i * z, z)) (rep len cs) parts with
      | none => False
      | some cells => (zeroOne P e = true ∧ cs.length = z ∧ len * z ≤ 16777216) ∧ forceL cells fun cells => k (.ref s.rows.length s.ctr 0 len) (s.push ⟨s.ctr, e, z, cells⟩)
  | _ => False

theorem fillA_length {place : Nat → Option (Nat × Nat)} : ∀ (parts : List (Nat × AV)) (us cells : List AV), fillA place us parts = some cells → cells.length = us.length
  | [], us, cells, h => by simp only [fillA, Option.some.injEq] at h; rw [h]
  | (i, u) :: rest, us, cells, h => by
    simp only [fillA] at h
    split at h
    · rename_i p hp
      split at h
      · rename_i hc
        rw [fillA_length rest _ _ h]
        obtain ⟨_, h1, h2⟩ := hc
        simp; omega
      · cases h
    · cases h

theorem aBuildSlice_ok (h : SR D w φ env s) (hK : ∀ b, K b → b < w.heap.size) {t : TypeId} {len : Nat} {parts : List (Nat × AV)} {vparts : Array (Nat × Value)} {k : AV → St → Prop} (hm : vparts.toList.map (·.1) = parts.map (·.1))
    (hv : ∀ (j : Nat) (x : Nat × Value) (y : Nat × AV), vparts.toList[j]? = some x → parts[j]? = some y → VR D w φ s.rows s.ctr x.2 y.2) (hk : aBuildSlice P s t len parts k) : Does D s.low P w φ env K (Instr.buildSlice t len vparts) k := by
  unfold aBuildSlice at hk
  split at hk
  · rename_i e hd
    split at hk
    case h_1 => exact hk.elim
    rename_i cs hcs
    have hk0 := aSz_out hk
    clear hk
    obtain ⟨z, hz, hz0, hk⟩ := hk0
    split at hk
    case h_1 => exact hk.elim
    rename_i cells hf
    obtain ⟨⟨h1, hlen, hle⟩, hk⟩ := hk
    rw [forceL_eq] at hk
    rw [rep_eq] at hf
    obtain ⟨zv, hzr, rfl, hzz⟩ := zero_run hcs
    have hall := zeroOne_all h1 hzz
    have hzs : zv.cells.size = z := by simpa using hlen
    have hp := made_pairs (D := D) (w := w) (φ := φ) (s := s) hall (by omega) len
    obtain ⟨cs', c1, c2⟩ := fill_ok parts vparts.toList _ _ cells hp hm hv hf
    obtain ⟨b1, b2, b3⟩ := h.newBlock cs' cells e z (Nat.le_of_eq c2.1.symm) hz0 c2.2
    have hsize : cs'.size = len * z := by rw [c2.1, fillA_length _ _ _ hf, ← hp.1, size_madeCells, hzs]
    refine ⟨.slice (some ⟨w.heap.size, 0, none⟩) len len, _, w.alloc (.cells cs' e), _, _, ?_, b1, ?_, Keeps.alloc _ hK, fun g hg => ?_, Lows.new (fun i hi => List.getElem?_append_left (by have h1 := h.lo; have h2 := h.len; omega)) (fun b hb => Below.heap_alloc w _ b hb), rfl, hk⟩
    · have hc1 : Instr.fill (fun i => some (i * z, z)) ((Array.range (len * z)).map (zv.cells[· % zv.cells.size]!)) vparts.toList = some cs' := by
        rw [← c1, hzs]; simp [madeCells, hzs]
      have hnle : ¬ (len * z > 2 ^ 24) := by omega
      by_cases hl0 : len * z = 0
      · have hl : len = 0 := by
          rcases Nat.mul_eq_zero.1 hl0 with h' | h'
          · exact h'
          · exact absurd h' hz0
        subst hl
        have hc2 : Instr.fill (fun i => some (i * z, z)) #[] vparts.toList = some cs' := by
          have e0 : (Array.range (0 * z)).map (zv.cells[· % zv.cells.size]!) = #[] := Array.eq_empty_of_size_eq_zero (by simp)
          rw [← hc1, e0]
        have e0 : (Array.range 0).map (zv.cells[· % zv.cells.size]!) = #[] := Array.eq_empty_of_size_eq_zero (by simp)
        have e1 : (Array.range 0).map ((#[] : Array Value)[· % 0]!) = #[] := Array.eq_empty_of_size_eq_zero (by simp)
        simp only [Instr.buildSlice, Sem.run_bind, run_underlying hd, Result.andThen_ok, run_tsz hz, Nat.zero_mul, gt_iff_lt, Nat.not_lt_zero, if_false, if_true, Sem.run_pure, Array.size_empty, e1, hc2, newRow, run_newObj]
        rfl
      · simp only [Instr.buildSlice, Sem.run_bind, run_underlying hd, Result.andThen_ok, run_tsz hz, hnle, if_false, hl0, Sem.run_pure, hzr, hc1, newRow, run_newObj]
        rfl
    · have hr' : ∀ r, (s.push ⟨s.ctr, e, z, cells⟩).rows[s.rows.length]? = some r → r = ⟨s.ctr, e, z, cells⟩ := fun r hr => by
        simp only [St.push] at hr; rw [getElem?_snoc] at hr; simp at hr; exact hr.symm
      refine .ref _ _ _ _ _ (by simp [St.push]) rfl fun r hr hver => ?_
      have := hr' r hr; subst this
      refine .inr ⟨w.heap.size, _, len, cs', ?_, rfl, Nat.le_refl _, ?_, b3, fun _ => rfl, fun _ => hsize, ?_⟩
      · rw [← h.len]; simp [Places.snoc]
      · simp only [maxLen]
        have : len ≤ len * z := Nat.le_mul_of_pos_right _ (by omega)
        omega
      · rw [hsize]; simp
    · rcases hg with hg | hg
      · exact .inl hg
      · cases hg; exact .inr (Nat.le_refl _)
  · exact hk.elim

end
end Go.Am
