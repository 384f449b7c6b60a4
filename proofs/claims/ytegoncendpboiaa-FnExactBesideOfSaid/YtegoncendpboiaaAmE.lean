/- The abstract machine, part E: new rows, stores, append. -/
import Derived.Test.YtegoncendpboiaaAmD
namespace Go.Am
open Go.RowKit
variable {D : Nat → Prop}

def AV.known : AV → Bool
  | .un | .tup _ | .rd _ => false
  | _ => true

section
variable {P : Program} {w : World} {φ : Places} {s : St} {env : List Value}

theorem VR.cells {v : Value} {u : AV} {rows : List Row} {ctr : Nat} (h : VR D w φ rows ctr v u) (hk : u.known = true) : v.cells.size = u.cells.length ∧
    ∀ (j : Nat) (x : Value) (y : AV), v.cells[j]? = some x → u.cells[j]? = some y → x.oneCell' = true ∧ VR D w φ rows ctr x y := by
  have one : ∀ (v : Value) (u : AV), v.cells = #[v] → u.cells = [u] → v.oneCell' = true → VR D w φ rows ctr v u → v.cells.size = u.cells.length ∧
    ∀ (j : Nat) (x : Value) (y : AV), v.cells[j]? = some x → u.cells[j]? = some y → x.oneCell' = true ∧ VR D w φ rows ctr x y := by
    intro v u e1 e2 e3 e4
    rw [e1, e2]
    refine ⟨rfl, fun j x y hx hy => ?_⟩
    cases j with
    | zero => simp at hx hy; subst hx; subst hy; exact ⟨e3, e4⟩
    | succ j => simp at hy
  cases h with
  | un v => simp [AV.known] at hk
  | int k n => exact one _ _ rfl rfl rfl (.int k n)
  | bool b => exact one _ _ rfl rfl rfl (.bool b)
  | str b => exact one _ _ rfl rfl rfl (.str b)
  | nil => exact one _ _ rfl rfl rfl .nil
  | sl0 A cap c hm => exact one _ _ rfl rfl rfl (.sl0 A cap c hm)
  | sl ad c n cap cells vs hs hF hD hlt hn hm hl hc h1 hv => exact one _ _ rfl rfl rfl (.sl ad c n cap cells vs hs hF hD hlt hn hm hl hc h1 hv)
  | rd ad cells vs hs hF hlt hl hc h1 hv => simp [AV.known] at hk
  | agg cs cells hl h1 hv => exact ⟨hl, fun j x y hx hy => ⟨h1 j x hx, hv j x y hx hy⟩⟩
  | tup vs us hl hv => simp [AV.known] at hk
  | ref t ver off n v hlt h1 h =>
    refine one _ _ ?_ rfl h1 (.ref t ver off n v hlt h1 h)
    cases v <;> first | rfl | simp [Value.oneCell'] at h1
  | ptr t ver off v hlt h1 h =>
    refine one _ _ ?_ rfl h1 (.ptr t ver off v hlt h1 h)
    cases v <;> first | rfl | simp [Value.oneCell'] at h1

def St.ownAll (s : St) : List (TypeId × Nat) → List AV → List AV × St
  | _, [] => ([], s)
  | ts, u :: us => ((s.own (tyAt ts) u).1 :: ((s.own (tyAt ts) u).2.ownAll ts.tail us).1, ((s.own (tyAt ts) u).2.ownAll ts.tail us).2)

theorem Mv.refl (w : World) (φ : Places) (rows : List Row) (ctr : Nat) : Mv w φ rows ctr w φ rows ctr := Mv.same (Nat.le_refl _) fun _ _ => rfl

theorem Mv.trans {w w' w'' : World} {φ φ' φ'' : Places} {rows rows' rows'' : List Row} {ctr ctr' ctr'' : Nat} (h : Mv w φ rows ctr w' φ' rows' ctr') (h' : Mv w' φ' rows' ctr' w'' φ'' rows'' ctr'') : Mv w φ rows ctr w'' φ'' rows'' ctr'' := by
  refine ⟨Nat.le_trans h.sz h'.sz, Nat.le_trans h.ct h'.ct, fun b hb hF => ?_, fun t r'' hr hlt => ?_⟩
  · obtain ⟨h1, h2⟩ := h.st b hb hF
    obtain ⟨h3, h4⟩ := h'.st b (Nat.lt_of_lt_of_le hb h.sz) h1
    exact ⟨h3, h4.trans h2⟩
  · obtain ⟨r', a1, a2, a3, a4, a5, a6⟩ := h'.rf t r'' hr (Nat.lt_of_lt_of_le hlt h.ct)
    obtain ⟨r, b1, b2, b3, b4, b5, b6⟩ := h.rf t r' a1 (by omega)
    refine ⟨r, b1, b2.trans a2, b3.trans a3, b4.trans a4, a5.trans b5, fun g cur hg hc => ?_⟩
    obtain ⟨cur', c1, c2⟩ := b6 g cur hg hc
    obtain ⟨cur'', d1, d2⟩ := a6 g cur' (by rw [b5]; exact hg) (by rw [← b3]; exact c1)
    exact ⟨cur'', by rw [b3]; exact d1, d2.trans c2⟩

theorem SR.ownAll : ∀ (ts : List (TypeId × Nat)) (us : List AV) {φ : Places} {s : St} (_ : SR D w φ env s) (vs : List Value) (_ : vs.length = us.length) (_ : ∀ (j : Nat) (v : Value) (u : AV), vs[j]? = some v → us[j]? = some u → VR D w φ s.rows s.ctr v u),
    ∃ φ', SR D w φ' env (s.ownAll ts us).2 ∧ (s.ownAll ts us).1.length = us.length ∧ (∀ (j : Nat) (v : Value) (u : AV), vs[j]? = some v → (s.ownAll ts us).1[j]? = some u → VR D w φ' (s.ownAll ts us).2.rows (s.ownAll ts us).2.ctr v u) ∧
      Mv w φ s.rows s.ctr w φ' (s.ownAll ts us).2.rows (s.ownAll ts us).2.ctr ∧ (∀ g, φ'.O g → φ.O g) ∧ (∀ i : Nat, i < φ.l.length → φ'.l[i]? = φ.l[i]?) ∧ (s.ownAll ts us).2.low = s.low
  | ts, [], φ, s, h, vs, hl, hv => ⟨φ, h, rfl, fun j v u _ hu => by simp [St.ownAll] at hu, Mv.refl _ _ _ _, fun g hg => hg, fun _ _ => rfl, rfl⟩
  | ts, u :: us, φ, s, h, vs, hl, hv => by
    cases vs with
    | nil => simp at hl
    | cons v vs =>
      obtain ⟨φ1, a1, a2, a3, a4, a5, a6⟩ := h.own (tyAt ts) (hv 0 v u rfl rfl)
      obtain ⟨φ2, b1, b2, b3, b4, b5, b6, b7⟩ := SR.ownAll ts.tail us a1 vs (by simpa using hl) (fun j v' u' h1 h2 => (hv (j + 1) v' u' (by simpa using h1) (by simpa using h2)).mv a3)
      refine ⟨φ2, b1, by simp [St.ownAll, b2], fun j v' u' h1 h2 => ?_, a3.trans b4, fun g hg => a4 g (b5 g hg), fun i hi => ?_, b7.trans a6⟩
      cases j with
      | zero =>
        simp [St.ownAll] at h1 h2
        subst h1; subst h2
        exact a2.mv b4
      | succ j =>
        simp [St.ownAll] at h1 h2
        exact b3 j v' u' h1 h2
      · have hl1 : φ.l.length ≤ φ1.l.length := by
          rw [h.len, a1.len]
          unfold St.own
          split <;> simp [St.push]
        exact (b6 i (by omega)).trans (a5 i hi)

/-- A new block, a row of the call's own. -/
theorem SR.newBlock (h : SR D w φ env s) (cells : Array Value) (us : List AV) (ety : TypeId) (size : Nat) (hl : us.length ≤ cells.size) (h0 : size ≠ 0)
    (hv : ∀ (j : Nat) (v : Value) (u : AV), cells[j]? = some v → us[j]? = some u → v.oneCell' = true ∧ VR D w φ s.rows s.ctr v u) :
    SR D (w.alloc (.cells cells ety)) (φ.snoc (some w.heap.size)) env (s.push ⟨s.ctr, ety, size, us⟩) ∧
    Mv w φ s.rows s.ctr (w.alloc (.cells cells ety)) (φ.snoc (some w.heap.size)) (s.push ⟨s.ctr, ety, size, us⟩).rows (s.push ⟨s.ctr, ety, size, us⟩).ctr ∧
    (w.alloc (.cells cells ety)).heap[w.heap.size]? = some (.cells cells ety (0, 0)) := by
  have hext : Ext w (w.alloc (.cells cells ety)) := ⟨by simp, fun b hb => Below.heap_alloc w _ b hb⟩
  have hnew : (w.alloc (.cells cells ety)).heap[w.heap.size]? = some (.cells cells ety (0, 0)) := heap_alloc_new w _
  have hsz : (w.alloc (.cells cells ety)).heap.size = w.heap.size + 1 := by simp
  -- the reading of the old, in the new
  have m : Mv w φ s.rows s.ctr (w.alloc (.cells cells ety)) (φ.snoc (some w.heap.size)) (s.rows ++ [⟨s.ctr, ety, size, us⟩]) (s.ctr + 1) := by
    have hlen := h.len
    refine ⟨hext.sz, by omega, fun b hb hF => ⟨?_, hext.bl b hb⟩, fun t r' hr' hlt => ?_⟩
    · rintro (h1 | h1)
      · exact hF h1
      · cases h1; omega
    · rw [getElem?_snoc] at hr'
      split at hr'
      · rename_i ht
        refine ⟨r', hr', rfl, rfl, rfl, ?_, fun g cur hg hc => ⟨cur, ?_, rfl⟩⟩
        · simp only [Places.snoc]
          rw [List.getElem?_append_left (by omega)]
        · rw [hext.bl g (lt_of_heap hc)]; exact hc
      · split at hr'
        · cases hr'; exact absurd hlt (Nat.lt_irrefl _)
        · cases hr'
  obtain ⟨h1, h2⟩ := h.push (w' := w.alloc (.cells cells ety)) (r := ⟨s.ctr, ety, size, us⟩) (ob := some w.heap.size) rfl hext (fun g hg => by cases hg; omega)
    ⟨cells, hnew, hl, fun _ _ => rfl, fun j u hu => by
      have hj : j < cells.size := Nat.lt_of_lt_of_le (List.getElem?_eq_some_iff.1 hu).1 hl
      have hc : cells[j]? = some cells[j] := Array.getElem?_eq_getElem hj
      obtain ⟨a1, a2⟩ := hv j _ u hc hu
      exact ⟨_, hc, a1, .vr _ _ (a2.mv m)⟩⟩ (fun e => absurd e h0)
  exact ⟨h1, h2, hnew⟩

end
end Go.Am
