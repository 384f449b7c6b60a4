/- The abstract machine, part G: store, box, alloc, makeSlice, buildSlice, build, append: the state behind them, and that the machine does so. -/
import Derived.Test.YtegoncendpboiaaAmF
namespace Go.Am
open Go.RowKit
variable {D : Nat → Prop}

/-- What an operation that hands back a value, or nothing, owes. -/
def Does (D : Nat → Prop) (low : Nat) (P : Program) (w : World) (φ : Places) (env : List Value) (K : Nat → Prop) (sem : Sem Value) (k : AV → St → Prop) : Prop :=
  ∃ v u w' φ' s', sem.run P w = .ok v w' ∧ SR D w' φ' env s' ∧ VR D w' φ' s'.rows s'.ctr v u ∧ Keeps K w w' ∧ (∀ g, φ'.O g → φ.O g ∨ w.heap.size ≤ g) ∧ Lows low w φ w' φ' ∧ s'.low = low ∧ k u s'

def DoesU (D : Nat → Prop) (low : Nat) (P : Program) (w : World) (φ : Places) (env : List Value) (K : Nat → Prop) (sem : Sem Unit) (k : St → Prop) : Prop :=
  ∃ w' φ' s', sem.run P w = .ok () w' ∧ SR D w' φ' env s' ∧ Keeps K w w' ∧ (∀ g, φ'.O g → φ.O g ∨ w.heap.size ≤ g) ∧ Lows low w φ w' φ' ∧ s'.low = low ∧ k s'

/-- Cells, some of them new. -/
def aSet (cells : List AV) (off : Nat) (us : List AV) (k : List AV → Prop) : Prop := k (cells.take off ++ (us ++ cells.drop (off + us.length)))

def aStore (P : Program) (s : St) (t : TypeId) (p v : AV) (k : St → Prop) : Prop :=
  match p with
  | .ptr τ ver off => aRow s τ ver fun r => aSz P t fun z => v.known = true ∧ v.cells.length = z ∧ off + z ≤ r.cells.length ∧
      aSet r.cells off v.cells fun cells => k (s.setRow τ (r.putC cells))
  | _ => False

section
variable {P : Program} {w : World} {φ : Places} {s : St} {env : List Value} {K : Nat → Prop}

theorem splice_get (xs ys : List AV) (off z j : Nat) (hy : ys.length = z) (h : off + z ≤ xs.length) : (xs.take off ++ (ys ++ xs.drop (off + z)))[j]? = if off ≤ j ∧ j < off + z then ys[j - off]? else xs[j]? := by
  subst hy
  have hl : (xs.take off).length = off := by simp; omega
  by_cases h1 : j < off
  · rw [List.getElem?_append_left (by omega), if_neg (by omega), List.getElem?_take, if_pos h1]
  · rw [List.getElem?_append_right (by omega), hl]
    by_cases h2 : j < off + ys.length
    · rw [if_pos (by omega), List.getElem?_append_left (by omega)]
    · rw [if_neg (by omega), List.getElem?_append_right (by omega), List.getElem?_drop]
      congr 1; omega

theorem SR.cur (h : SR D w φ env s) {τ g : Nat} {r : Row} (hr : s.rows[τ]? = some r) (hg : φ.l[τ]? = some (some g)) : ∃ cur : Array Value, w.heap[g]? = some (.cells cur r.ety (0, 0)) ∧ r.cells.length ≤ cur.size ∧
    ∀ (j : Nat) (u : AV), r.cells[j]? = some u → ∃ v, cur[j]? = some v ∧ v.oneCell' = true ∧ (u.isOwn = false → VR D w φ s.rows s.ctr v u) := by
  obtain ⟨ω, hn⟩ := h.nest
  obtain ⟨cur, h1, h2, _, h3⟩ := hn.row τ r (some g) hr hg
  exact ⟨cur, h1, h2, fun j u hu => by
    obtain ⟨v, a1, a2, a3⟩ := h3 j u hu
    exact ⟨v, a1, a2, fun ho => (a3.vr_of ho).1⟩⟩

theorem write_row (h : SR D w φ env s) (hK : ∀ g, φ.O g → ¬ K g) {τ g off : Nat} {r : Row} {vs : List Value} {us : List AV} (hr : s.rows[τ]? = some r) (hg : φ.l[τ]? = some (some g)) (hl : vs.length = us.length) (hfit : off + us.length ≤ r.cells.length)
    (h1 : ∀ v ∈ vs, v.oneCell' = true) (hv : ∀ (j : Nat) (x : Value) (y : AV), vs[j]? = some x → us[j]? = some y → VR D w φ s.rows s.ctr x y) :
    (storeCells ⟨g, off, none⟩ vs 0).run P w = .ok () (w.setCells g off vs) ∧ SR D (w.setCells g off vs) φ env (s.setRow τ { r with cells := r.cells.take off ++ (us ++ r.cells.drop (off + us.length)) }) ∧ Keeps K w (w.setCells g off vs) ∧
    Mv w φ s.rows s.ctr (w.setCells g off vs) φ (s.setRow τ { r with cells := r.cells.take off ++ (us ++ r.cells.drop (off + us.length)) }).rows s.ctr ∧ Lows s.low w φ (w.setCells g off vs) φ := by
  obtain ⟨cur, c1, c2, c3⟩ := h.cur hr hg
  obtain ⟨b1, b2, b3, b4, b5, b6⟩ := heap_setCells vs w g off cur r.ety (0, 0) c1
  have hlen : (r.cells.take off ++ (us ++ r.cells.drop (off + us.length))).length = r.cells.length := by simp; omega
  obtain ⟨d1, d2⟩ := h.setRow (w' := w.setCells g off vs) (us := r.cells.take off ++ (us ++ r.cells.drop (off + us.length))) hr hg c1 b1 (spliceA_size _ _ _) b2 b3 (by rw [hlen, spliceA_size]; exact c2) (fun j u hu => by
      rw [splice_get _ _ _ _ _ rfl hfit] at hu
      rw [spliceA_get _ _ _ _ (by omega)]
      split at hu
      · rename_i hj
        rw [if_pos (by omega)]
        have hx : vs[j - off]? = some (vs[j - off]'(by omega)) := List.getElem?_eq_getElem _
        exact ⟨_, hx, h1 _ (List.getElem_mem _), .inl (hv _ _ _ hx hu)⟩
      · rename_i hj
        rw [if_neg (by omega)]
        obtain ⟨v, e1, e2, _⟩ := c3 j u hu
        exact ⟨v, e1, e2, .inr ⟨hu, e1⟩⟩)
  refine ⟨?_, d1, ⟨b4, b5, b6, Nat.le_of_eq b2.symm, fun b hb => b3 b (fun e => hK g (h.occ g (List.mem_of_getElem? hg)) (by rw [← e]; exact hb))⟩, d2, ⟨fun _ _ => rfl, fun i g' cur0 t hi hg' hc0 => ?_⟩⟩
  rotate_left
  · by_cases e : g' = g
    · subst e
      rw [c1] at hc0; cases hc0
      exact ⟨_, b1, spliceA_size _ _ _⟩
    · exact ⟨cur0, by rw [b3 g' e]; exact hc0, rfl⟩
  have := run_storeCells_cells (P := P) g off vs 0 w (fun j hj => by
      have : w.cell? ⟨g, off + 0 + j, none⟩ = cur[off + j]? := by simp [World.cell?, c1]
      rw [this, Array.getElem?_eq_getElem (by omega)]; rfl) (fun j hj => by simp [World.frozen?, c1]) h1
  simpa using this

theorem aStore_ok (h : SR D w φ env s) (hK : ∀ g, φ.O g → ¬ K g) {t : TypeId} {p v : AV} {pv vv : Value} {k : St → Prop} (hp : VR D w φ s.rows s.ctr pv p) (hv : VR D w φ s.rows s.ctr vv v) (hk : aStore P s t p v k) :
    DoesU D s.low P w φ env K (Instr.storeAt t pv vv) k := by
  unfold aStore at hk
  split at hk
  · rename_i τ ver off
    obtain ⟨r, hr, hver, hk⟩ := aRow_out hk
    obtain ⟨z, hz, _, hkn, hlen, hfit, hk⟩ := aSz_out hk
    cases hp with
    | ptr _ _ _ _ hlt h1 hx =>
      obtain ⟨g, hg, rfl⟩ := hx r hr hver
      obtain ⟨e1, e2⟩ := hv.cells hkn
      obtain ⟨a1, a2, a3, _, a5⟩ := write_row (P := P) (off := off) h hK (vs := vv.cells.toList) (us := v.cells) hr hg (by simpa using e1) (by omega) (fun x hx => by
          obtain ⟨j, hj⟩ := List.getElem?_of_mem hx
          have hjl : j < v.cells.length := by rw [← e1]; have := (List.getElem?_eq_some_iff.1 hj).1; simpa using this
          exact (e2 j x _ (by simpa using hj) (List.getElem?_eq_getElem hjl)).1) (fun j x y hx hy => (e2 j x y (by simpa using hx) hy).2)
      refine ⟨_, φ, _, ?_, a2, a3, fun g hg => .inl hg, a5, rfl, hk⟩
      have hzz : vv.cells.size = z := by omega
      simp only [Instr.storeAt, Instr.sureAddr, storeVar, Sem.run_bind, Sem.run_pure, Result.andThen_ok, run_tsz hz, hzz, ne_eq, not_true_eq_false, if_false]
      exact a1
  · exact hk.elim

theorem Keeps.alloc (o : Obj) (hK : ∀ b, K b → b < w.heap.size) : Keeps K w (w.alloc o) := ⟨rfl, rfl, rfl, by simp, fun b hb => Below.heap_alloc w o b (hK b hb)⟩

def aBox (P : Program) (s : St) (t : TypeId) (v : AV) (k : AV → St → Prop) : Prop :=
  v.known = true ∧ v.cells ≠ [] ∧ aTys P 3 t fun ts => forceL (s.ownAll ts v.cells).1 fun cs => forceN v.cells.length fun n => k (.ptr (s.ownAll ts v.cells).2.rows.length (s.ownAll ts v.cells).2.ctr 0) ((s.ownAll ts v.cells).2.push ⟨(s.ownAll ts v.cells).2.ctr, t, n, cs⟩)

theorem aBox_ok (h : SR D w φ env s) (hK : ∀ b, K b → b < w.heap.size) {t : TypeId} {v : AV} {vv : Value} {k : AV → St → Prop} (hv : VR D w φ s.rows s.ctr vv v) (hk : aBox P s t v k) : Does D s.low P w φ env K (Instr.box t vv) k := by
  obtain ⟨hkn, hne, hk⟩ := hk
  obtain ⟨ts, hk⟩ := aTys_out _ _ _ hk
  rw [forceL_eq, forceN_eq] at hk
  obtain ⟨e1, e2⟩ := hv.cells hkn
  obtain ⟨φ1, a1, a2, a3, a4, a5, a6, a7⟩ := SR.ownAll ts v.cells h vv.cells.toList (by simpa using e1) (fun j x y hx hy => (e2 j x y (by simpa using hx) hy).2)
  have hl0 : v.cells.length ≠ 0 := fun e => hne (List.eq_nil_of_length_eq_zero e)
  obtain ⟨b1, b2, b3⟩ := a1.newBlock vv.cells (s.ownAll ts v.cells).1 t v.cells.length (by omega) hl0 (fun j x y hx hy => by
      have hj : j < v.cells.length := by rw [← a2]; exact (List.getElem?_eq_some_iff.1 hy).1
      exact ⟨(e2 j x _ hx (List.getElem?_eq_getElem hj)).1, a3 j x y (by simpa using hx) hy⟩)
  refine ⟨.pointer (some ⟨w.heap.size, 0, none⟩), _, w.alloc (.cells vv.cells t), _, _, ?_, b1, ?_, Keeps.alloc _ hK, fun g hg => ?_, Lows.new (fun i hi => ?_) (fun b hb => Below.heap_alloc w _ b hb), a7, hk⟩
  · simp [Instr.box, newVar, newRow]
  · refine .ptr _ _ _ _ (by simp [St.push]) rfl fun r hr hver => ⟨w.heap.size, ?_, rfl⟩
    rw [← a1.len]; simp [Places.snoc]
  · rcases hg with hg | hg
    · exact .inl (a5 g hg)
    · cases hg; exact .inr (Nat.le_refl _)
  · have h1 := h.lo
    have h2 := h.len
    have h3 := a1.lo
    have h4 := a1.len
    rw [snoc_l, List.getElem?_append_left (by omega), a6 i (by omega)]

def zeroCellsA (P : Program) (t : TypeId) : Option (List AV) := ((P.info? t).bind (·.zero)).map fun z => z.cells.toList.map constAV

/-- A zero value's cells are each one cell: closed, asked of the type. -/
def zeroOne (P : Program) (t : TypeId) : Bool := (((P.info? t).bind (·.zero)).map fun z => z.cells.all (·.oneCell')).getD false

theorem zero_run {t : TypeId} {cs : List AV} (h : zeroCellsA P t = some cs) : ∃ z : Value, (∀ w, (zeroValue t).run P w = .ok z w) ∧ cs = z.cells.toList.map constAV ∧ ((P.info? t).bind (·.zero)) = some z := by
  unfold zeroCellsA at h
  cases hi : P.info? t with
  | none => simp [hi] at h
  | some i =>
    cases hz : i.zero with
    | none => simp [hi, hz] at h
    | some z =>
      simp [hi, hz] at h
      exact ⟨z, fun w => by simp [zeroValue, typeInfo, hi, hz], h.symm, by simp [hz]⟩

def aAlloc (P : Program) (s : St) (t : TypeId) (k : AV → St → Prop) : Prop :=
  match zeroCellsA P t with
  | none => False
  | some cs => zeroOne P t = true ∧ cs.isEmpty = false ∧ aTys P 3 t fun ts => forceL cs fun cs => forceL (s.ownAll ts cs).1 fun us => forceN cs.length fun n => k (.ptr (s.ownAll ts cs).2.rows.length (s.ownAll ts cs).2.ctr 0) ((s.ownAll ts cs).2.push ⟨(s.ownAll ts cs).2.ctr, t, n, us⟩)

theorem aAlloc_ok (h : SR D w φ env s) (hK : ∀ b, K b → b < w.heap.size) {t : TypeId} {k : AV → St → Prop} (hk : aAlloc P s t k) : Does D s.low P w φ env K (Instr.alloc t true (.tuple #[])) k := by
  unfold aAlloc at hk
  split at hk
  case h_1 => exact hk.elim
  rename_i cs hcs
  obtain ⟨h1, hne, hk⟩ := hk
  obtain ⟨ts, hk⟩ := aTys_out _ _ _ hk
  rw [forceL_eq, forceL_eq, forceN_eq] at hk
  have hne : cs ≠ [] := fun e => by subst e; cases hne
  obtain ⟨z, hz, rfl, hzz⟩ := zero_run hcs
  unfold zeroOne at h1
  rw [hzz] at h1
  simp only [Option.map_some, Option.getD_some, Array.all_eq_true] at h1
  obtain ⟨φ1, a1, a2, a3, a4, a5, a6, a7⟩ := SR.ownAll ts (z.cells.toList.map constAV) h z.cells.toList (by simp) (fun j x y hx hy => by
      simp only [List.getElem?_map, Option.map_eq_some_iff] at hy
      obtain ⟨x', hx', rfl⟩ := hy
      rw [hx] at hx'; cases hx'
      exact constAV_ok _ _ _ _ _)
  have hl0 : (z.cells.toList.map constAV).length ≠ 0 := fun e => hne (List.eq_nil_of_length_eq_zero e)
  obtain ⟨b1, b2, b3⟩ := a1.newBlock z.cells (s.ownAll ts (z.cells.toList.map constAV)).1 t (z.cells.toList.map constAV).length (by rw [a2]; simp) hl0 (fun j x y hx hy =>
    ⟨by have := (Array.getElem?_eq_some_iff.1 hx); obtain ⟨hj, rfl⟩ := this; exact h1 j hj, a3 j x y (by simpa using hx) hy⟩)
  refine ⟨.pointer (some ⟨w.heap.size, 0, none⟩), _, w.alloc (.cells z.cells t), _, _, ?_, b1, ?_, Keeps.alloc _ hK, fun g hg => ?_, Lows.new (fun i hi => ?_) (fun b hb => Below.heap_alloc w _ b hb), a7, hk⟩
  · simp [Instr.alloc, hz, newVar, newRow]
  · refine .ptr _ _ _ _ (by simp [St.push]) rfl fun r hr hver => ⟨w.heap.size, ?_, rfl⟩
    rw [← a1.len]; simp [Places.snoc]
  · rcases hg with hg | hg
    · exact .inl (a5 g hg)
    · cases hg; exact .inr (Nat.le_refl _)
  · have h1 := h.lo
    have h2 := h.len
    have h3 := a1.lo
    have h4 := a1.len
    rw [snoc_l, List.getElem?_append_left (by omega), a6 i (by omega)]

end
end Go.Am
