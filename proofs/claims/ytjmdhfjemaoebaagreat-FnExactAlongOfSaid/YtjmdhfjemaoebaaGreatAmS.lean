import Derived.Test.YtjmdhfjemaoebaaGreatAmK
namespace Go.Am
open Go.RowKit
variable {D : Nat → Prop}
section
variable {P : Program} {w : World} {φ : Places} {s : St} {env : List Value}
def St.openAt (s : St) (τ j : Nat) (r : Row) (e : TypeId) (z n : Nat) (cs : List AV) : St :=
  { s with rows := s.rows.set τ (r.putC (r.cells.set j (.ref s.rows.length s.ctr 0 n))) ++ [⟨s.ctr, e, z, cs⟩], ctr := s.ctr + 1 }
theorem set_get {α : Type} {l : List α} {i j : Nat} {x : α} (h : i < l.length) : (l.set i x)[j]? = if i = j then some x else l[j]? := by
  rw [List.getElem?_set]
  by_cases e : i = j
  · subst e; simp [h]
  · simp [e]
theorem SR.openAt (h : SR D w φ env s) {τ j : Nat} {r : Row} {e : TypeId} {z n : Nat} {cs : List AV} (hr : s.rows[τ]? = some r) (hc : r.cells[j]? = some (.own e z n cs)) :
    ∃ ob g v cur, φ.l[τ]? = some (some g) ∧ w.heap[g]? = some (.cells cur r.ety (0, 0)) ∧ cur[j]? = some v ∧ v.oneCell' = true ∧ SR D w ⟨φ.l ++ [ob], φ.O⟩ env (s.openAt τ j r e z n cs) ∧ Mv w φ s.rows s.ctr w ⟨φ.l ++ [ob], φ.O⟩ (s.openAt τ j r e z n cs).rows (s.openAt τ j r e z n cs).ctr ∧
      VR D w ⟨φ.l ++ [ob], φ.O⟩ (s.openAt τ j r e z n cs).rows (s.openAt τ j r e z n cs).ctr v (.ref s.rows.length s.ctr 0 n) := by
  obtain ⟨ω, hn⟩ := h.nest
  have hτ : τ < s.rows.length := (List.getElem?_eq_some_iff.1 hr).1
  have hτφ : τ < φ.l.length := by rw [h.len]; exact hτ
  have hob : φ.l[τ]? = some φ.l[τ] := List.getElem?_eq_getElem hτφ
  have hrow := hn.row τ r _ hr hob
  generalize φ.l[τ] = ob0 at hob hrow
  cases ob0 with
  | none => rw [hrow.1] at hc; simp at hc
  | some g =>
  obtain ⟨cur, c1, c2, c3, c4⟩ := hrow
  obtain ⟨v, v1, v2, v3⟩ := c4 j _ hc
  have hj : j < r.cells.length := (List.getElem?_eq_some_iff.1 hc).1
  have key : ∃ ob Fn, (∀ b, ob = some b → ω τ j [] b) ∧ (∀ i p b, Fn i p b → ω τ j (i :: p) b) ∧ z ≠ 0 ∧ RowOk D w φ s.rows s.ctr ⟨s.ctr, e, z, cs⟩ ob Fn ∧
      ((ob = none ∧ v = .slice none 0 0 ∧ n = 0) ∨ ∃ b cap cb, ob = some b ∧ v = .slice (some ⟨b, 0, none⟩) n cap ∧ n ≤ cap ∧ cap ≤ maxLen ∧ w.heap[b]? = some (.cells cb e (0, 0)) ∧ cb.size = cap * z) := by
    generalize hF : ω τ j = F at v3
    cases v3 with
    | vr _ _ hv => cases hv
    | own0 _ _ hz => exact ⟨none, fun _ => noFoot, (fun b hb => by cases hb), (fun i p b hb => hb.elim), hz, ⟨rfl, fun _ => rfl⟩, .inl ⟨rfl, rfl, rfl⟩⟩
    | own _ _ _ b cap cb _ vs F' hz hg hs hn' hm hl hv hF' hcc =>
      refine ⟨some b, F', (fun b' hb' => by cases hb'; rfl), (fun i p b' hb' => hb'), hz, ⟨cb, hg, ?_, hF', fun i u hu => ⟨vs i, (hv i u hu).1, (hv i u hu).2, hcc i u hu⟩⟩, .inr ⟨b, cap, cb, rfl, rfl, hn', hm, hg, hs⟩⟩
      rw [hl, hs]; exact Nat.mul_le_mul_right z hn'
  obtain ⟨ob, Fn, k1, k2, hz, k3, k4⟩ := key
  have hobO : ∀ b, ob = some b → φ.O b := fun b hb => hn.ap.oc τ j [] b (k1 b hb)
  have hobl : ∀ b, ob = some b → some b ∉ φ.l := fun b hb => hn.ap.nf τ j [] b (k1 b hb)
  let φ' : Places := ⟨φ.l ++ [ob], φ.O⟩
  let s' := s.openAt τ j r e z n cs
  have hlen : (s.rows.set τ (r.putC (r.cells.set j (.ref s.rows.length s.ctr 0 n)))).length = s.rows.length := by simp
  have hrows : ∀ t : Nat, s'.rows[t]? = if t = s.rows.length then some ⟨s.ctr, e, z, cs⟩ else if τ = t then some (r.putC (r.cells.set j (.ref s.rows.length s.ctr 0 n))) else s.rows[t]? := fun t => by
    show (s.rows.set τ _ ++ [_])[t]? = _
    rw [getElem?_snoc, hlen]
    by_cases h1 : t < s.rows.length
    · rw [if_pos h1, if_neg (by omega), set_get hτ]
    · by_cases h2 : t = s.rows.length
      · rw [if_neg h1, if_pos h2, if_pos h2]
      · rw [if_neg h1, if_neg h2, if_neg h2, if_neg (by omega)]
        exact (List.getElem?_eq_none (by omega)).symm
  have hφl : ∀ t : Nat, φ'.l[t]? = if t = s.rows.length then some ob else φ.l[t]? := fun t => by
    show (φ.l ++ [ob])[t]? = _
    rw [getElem?_snoc, h.len]
    by_cases h1 : t < s.rows.length
    · rw [if_pos h1, if_neg (by omega)]
    · by_cases h2 : t = s.rows.length
      · rw [if_neg h1, if_pos h2, if_pos h2]
      · rw [if_neg h1, if_neg h2, if_neg h2]
        exact (List.getElem?_eq_none (by rw [h.len]; omega)).symm
  have m : Mv w φ s.rows s.ctr w φ' s'.rows s'.ctr := by
    refine ⟨Nat.le_refl _, by simp [s', St.openAt], fun b hb hF => ⟨hF, rfl⟩, fun t r' hr' hlt => ?_⟩
    rw [hrows] at hr'
    split at hr'
    · cases hr'; exact absurd hlt (Nat.lt_irrefl _)
    · rename_i ht
      split at hr'
      · rename_i e'
        subst e'
        cases hr'
        rw [Row.putC_eq]
        exact ⟨r, hr, rfl, rfl, rfl, by rw [hφl, if_neg ht], fun g' cur' _ hg' => ⟨cur', hg', rfl⟩⟩
      · exact ⟨r', hr', rfl, rfl, rfl, by rw [hφl, if_neg ht], fun g' cur' _ hg' => ⟨cur', hg', rfl⟩⟩
  have hvr : VR D w φ' s'.rows s'.ctr v (.ref s.rows.length s.ctr 0 n) := by
    refine .ref _ _ _ _ _ (by simp [s', St.openAt]) v2 fun r' hr' _ => ?_
    rw [hrows, if_pos rfl] at hr'
    cases hr'
    rcases k4 with ⟨rfl, rfl, rfl⟩ | ⟨b, cap, cb, rfl, rfl, a3, a4, a5, a6⟩
    · exact .inl ⟨by rw [hφl, if_pos rfl], rfl, rfl, rfl⟩
    · refine .inr ⟨b, _, cap, cb, by rw [hφl, if_pos rfl], rfl, a3, a4, a5, fun _ => rfl, fun _ => a6, ?_⟩
      rw [a6, Nat.zero_add]; exact Nat.mul_le_mul_right z a3
  let ω' : Nat → Nat → Foot := fun t i => if t = s.rows.length then Fn i else if t = τ ∧ i = j then noFoot else ω t i
  have hω : ∀ t i p b, ω' t i p b → (t = s.rows.length ∧ ω τ j (i :: p) b) ∨ (t ≠ s.rows.length ∧ ¬ (t = τ ∧ i = j) ∧ ω t i p b) := fun t i p b hb => by
    simp only [ω'] at hb
    split at hb
    · rename_i ht; exact .inl ⟨ht, k2 i p b hb⟩
    · rename_i ht
      split at hb
      · exact hb.elim
      · rename_i hti; exact .inr ⟨ht, hti, hb⟩
  refine ⟨ob, g, v, cur, hob, c1, v1, v2, ?_, m, hvr⟩
  refine h.mv m rfl (by simp [St.openAt, h.len]) (by have := h.lo; simp only [St.openAt, List.length_append, hlen]; omega) (fun t t' b hb hb' => ?_) h.lt (fun b hb => ?_) (fun r' hr' => ?_)
    ⟨ω', fun t r' ob' hr' hob' => ?_, fun t ht i => ?_, ⟨fun t t' i i' p p' b h1 h2 => ?_, fun t i p b h1 hm => ?_, fun t i p b h1 => ?_⟩⟩ (fun t r' hr' hz' => ?_) h.dis
  · rw [hφl] at hb hb'
    split at hb
    · rename_i e1
      split at hb'
      · rename_i e2; rw [e1, e2]
      · have e0 : ob = some b := by simpa using hb
        exact absurd (List.mem_of_getElem? hb') (hobl b e0)
    · split at hb'
      · have e0 : ob = some b := by simpa using hb'
        exact absurd (List.mem_of_getElem? hb) (hobl b e0)
      · exact h.inj t t' b hb hb'
  · rcases List.mem_append.1 hb with hb | hb
    · exact h.occ b hb
    · exact hobO b (by simpa using (List.mem_singleton.1 hb).symm)
  · obtain ⟨t, ht⟩ := List.getElem?_of_mem hr'
    rw [hrows] at ht
    have hctr : s'.ctr = s.ctr + 1 := rfl
    show r'.ver < s'.ctr
    split at ht
    · cases ht; rw [hctr]; exact Nat.lt_succ_self _
    · split at ht
      · cases ht
        have := h.ver r (List.mem_of_getElem? hr)
        rw [Row.putC_eq]; simp only; omega
      · have := h.ver r' (List.mem_of_getElem? ht); omega
  · have hr'0 : s'.rows[t]? = some r' := hr'
    have hob'0 : φ'.l[t]? = some ob' := hob'
    rw [hrows] at hr'0
    rw [hφl] at hob'0
    show RowOk D w φ' s'.rows s'.ctr r' ob' (ω' t)
    split at hr'0
    · rename_i ht
      subst ht
      rw [if_pos rfl] at hob'0
      cases hr'0; cases hob'0
      have e0 : ω' s.rows.length = Fn := by funext i; simp [ω']
      rw [e0]
      exact k3.mv m (fun _ _ => rfl) (fun _ _ _ _ => rfl)
    · rename_i ht
      rw [if_neg ht] at hob'0
      split at hr'0
      · rename_i e'
        subst e'
        cases hr'0
        rw [hob] at hob'0; cases hob'0
        rw [Row.putC_eq]
        refine ⟨cur, c1, by simpa using c2, fun i hi => ?_, fun i u hu => ?_⟩
        · simp only [ω', if_neg ht]
          split
          · rfl
          · exact c3 i (by simpa using hi)
        · simp only at hu
          rw [set_get hj] at hu
          split at hu
          · rename_i e'
            subst e'
            cases hu
            refine ⟨v, v1, v2, ?_⟩
            have e0 : ω' τ j = noFoot := by simp [ω', ht]
            rw [e0]
            exact .vr _ _ hvr
          · rename_i e'
            obtain ⟨x, x1, x2, x3⟩ := c4 i u hu
            refine ⟨x, x1, x2, ?_⟩
            have e0 : ω' τ i = ω τ i := by
              simp only [ω', if_neg ht]
              rw [if_neg (fun hh => e' hh.2.symm)]
            rw [e0]
            exact x3.mv m (fun _ _ _ => rfl)
      · rename_i e'
        have e0 : ω' t = ω t := by
          funext i
          simp only [ω', if_neg ht]
          rw [if_neg (fun hh => e' hh.1.symm)]
        rw [e0]
        exact (hn.row t r' ob' hr'0 hob'0).mv m (fun _ _ => rfl) (fun _ _ _ _ => rfl)
  · have ht0 : s'.rows[t]? = none := ht
    rw [hrows] at ht0
    split at ht0
    · cases ht0
    · rename_i h1
      split at ht0
      · cases ht0
      · simp only [ω', if_neg h1]
        split
        · rfl
        · exact hn.out t ht0 i
  · rcases hω t i p b h1 with ⟨e1, x1⟩ | ⟨e1, e2, x1⟩ <;> rcases hω t' i' p' b h2 with ⟨f1, y1⟩ | ⟨f1, f2, y1⟩
    · obtain ⟨_, _, q⟩ := hn.ap.uq _ _ _ _ _ _ b x1 y1
      simp only [List.cons.injEq] at q
      exact ⟨by rw [e1, f1], q.1, q.2⟩
    · obtain ⟨q1, q2, _⟩ := hn.ap.uq _ _ _ _ _ _ b x1 y1
      exact absurd ⟨q1.symm, q2.symm⟩ f2
    · obtain ⟨q1, q2, _⟩ := hn.ap.uq _ _ _ _ _ _ b x1 y1
      exact absurd ⟨q1, q2⟩ e2
    · exact hn.ap.uq _ _ _ _ _ _ b x1 y1
  · have hold : ∃ t i p, ω t i p b := by
      rcases hω t i p b h1 with ⟨_, x1⟩ | ⟨_, _, x1⟩
      · exact ⟨_, _, _, x1⟩
      · exact ⟨_, _, _, x1⟩
    obtain ⟨t0, i0, p0, hold⟩ := hold
    rcases List.mem_append.1 hm with hm | hm
    · exact hn.ap.nf _ _ _ _ hold hm
    · have e0 : ob = some b := by simpa using (List.mem_singleton.1 hm).symm
      have x0 := k1 b e0
      rcases hω t i p b h1 with ⟨_, x1⟩ | ⟨_, e2, x1⟩
      · obtain ⟨_, _, q⟩ := hn.ap.uq _ _ _ _ _ _ b x0 x1
        cases q
      · obtain ⟨q1, q2, _⟩ := hn.ap.uq _ _ _ _ _ _ b x0 x1
        exact e2 ⟨q1.symm, q2.symm⟩
  · rcases hω t i p b h1 with ⟨_, x1⟩ | ⟨_, _, x1⟩
    · exact hn.ap.oc _ _ _ _ x1
    · exact hn.ap.oc _ _ _ _ x1
  · have hr'0 : s'.rows[t]? = some r' := hr'
    show φ'.l[t]? = some none
    rw [hrows] at hr'0
    rw [hφl]
    split at hr'0
    · cases hr'0; exact absurd hz' hz
    · rename_i ht
      rw [if_neg ht]
      split at hr'0
      · rename_i e'
        subst e'
        cases hr'0
        rw [Row.putC_eq] at hz'
        exact h.sz0 τ r hr hz'
      · exact h.sz0 t r' hr'0 hz'
def St.closeAt (s : St) (t j τ : Nat) (r : Row) (e : TypeId) (z n : Nat) (cs : List AV) : St :=
  { s with rows := (s.rows.set t (r.putC (r.cells.set j (.own e z n cs)))).set τ ⟨s.ctr, e, z, []⟩, ctr := s.ctr + 1 }
theorem SR.closeAt (h : SR D w φ env s) {t j τ v n z : Nat} {e : TypeId} {r : Row} {cs : List AV} (hr : s.rows[t]? = some r) (hc : r.cells[j]? = some (.ref τ v 0 n)) (hτ : s.rows[τ]? = some ⟨v, e, z, cs⟩) (hne : t ≠ τ) (hz : z ≠ 0) (hl : cs.length = n * z) :
    SR D w ⟨φ.l.set τ none, φ.O⟩ env (s.closeAt t j τ r e z n cs) ∧ Mv w φ s.rows s.ctr w ⟨φ.l.set τ none, φ.O⟩ (s.closeAt t j τ r e z n cs).rows (s.closeAt t j τ r e z n cs).ctr ∧ (s.closeAt t j τ r e z n cs).low = s.low := by
  obtain ⟨ω, hn⟩ := h.nest
  have ht : t < s.rows.length := (List.getElem?_eq_some_iff.1 hr).1
  have htφ : t < φ.l.length := by rw [h.len]; exact ht
  have hτl : τ < s.rows.length := (List.getElem?_eq_some_iff.1 hτ).1
  have hτφ : τ < φ.l.length := by rw [h.len]; exact hτl
  have hob : φ.l[t]? = some φ.l[t] := List.getElem?_eq_getElem htφ
  have hobτ : φ.l[τ]? = some φ.l[τ] := List.getElem?_eq_getElem hτφ
  have hrow := hn.row t r _ hr hob
  have hrowτ := hn.row τ _ _ hτ hobτ
  generalize φ.l[t] = ob0 at hob hrow
  generalize φ.l[τ] = obτ at hobτ hrowτ
  cases ob0 with
  | none => rw [hrow.1] at hc; simp at hc
  | some g =>
  obtain ⟨cur, c1, c2, c3, c4⟩ := hrow
  obtain ⟨x, x1, x2, x3⟩ := c4 j _ hc
  obtain ⟨x3, xF⟩ := x3.vr_of rfl
  have hj : j < r.cells.length := (List.getElem?_eq_some_iff.1 hc).1
  have hmemset : ∀ b, some b ∈ φ.l.set τ none → some b ∈ φ.l := fun b hb => by
    rcases List.mem_or_eq_of_mem_set hb with hb | hb
    · exact hb
    · cases hb
  let φ' : Places := ⟨φ.l.set τ none, φ.O⟩
  let s' := s.closeAt t j τ r e z n cs
  have hrows : ∀ i : Nat, s'.rows[i]? = if τ = i then some ⟨s.ctr, e, z, []⟩ else if t = i then some (r.putC (r.cells.set j (.own e z n cs))) else s.rows[i]? := fun i => by
    show ((s.rows.set t _).set τ _)[i]? = _
    rw [set_get (by simpa using hτl), set_get ht]
  have hφl : ∀ i : Nat, φ'.l[i]? = if τ = i then some none else φ.l[i]? := fun i => set_get hτφ
  have m : Mv w φ s.rows s.ctr w φ' s'.rows s'.ctr := by
    refine ⟨Nat.le_refl _, Nat.le_succ _, fun b hb hF => ⟨hF, rfl⟩, fun i r' hr' hlt => ?_⟩
    rw [hrows] at hr'
    split at hr'
    · cases hr'; exact absurd hlt (Nat.lt_irrefl _)
    · rename_i hi
      split at hr'
      · rename_i e'
        subst e'
        cases hr'
        rw [Row.putC_eq]
        exact ⟨r, hr, rfl, rfl, rfl, by rw [hφl, if_neg hi], fun g' cur' _ hg' => ⟨cur', hg', rfl⟩⟩
      · exact ⟨r', hr', rfl, rfl, rfl, by rw [hφl, if_neg hi], fun g' cur' _ hg' => ⟨cur', hg', rfl⟩⟩
  have key : ∃ F : Foot, CV D w φ' s'.rows s'.ctr x (.own e z n cs) F ∧ (∀ p b, F p b → (p = [] ∧ φ.l[τ]? = some (some b)) ∨ ∃ i q, p = i :: q ∧ ω τ i q b) := by
    cases x3 with
    | ref _ _ _ _ _ hlt h1 hx =>
      rcases hx _ hτ rfl with ⟨a1, rfl, rfl, _⟩ | ⟨b, A, cap, cb, a1, rfl, a3, a4, a5, a6, a7, a8⟩
      · have : cs = [] := List.eq_nil_of_length_eq_zero (by simpa using hl)
        subst this
        exact ⟨noFoot, .own0 e z hz, fun p b hb => hb.elim⟩
      · have hA := a6 (.inl rfl); subst hA
        rw [hobτ] at a1; cases a1
        obtain ⟨cb0, d1, d2, d3, d4⟩ := hrowτ
        rw [a5] at d1; cases d1
        have each : ∀ i : Nat, ∃ y, ∀ u, cs[i]? = some u → cb[i]? = some y ∧ y.oneCell' = true ∧ CV D w φ s.rows s.ctr y u (ω τ i) := fun i => by
          cases hu : cs[i]? with
          | none => exact ⟨undef, fun u h => by cases h⟩
          | some u =>
            obtain ⟨y, y1, y2, y3⟩ := d4 i u hu
            exact ⟨y, fun u' h => by cases h; exact ⟨y1, y2, y3⟩⟩
        refine ⟨rootFoot b (ω τ), .own e z n b cap cb cs (fun i => Classical.choose (each i)) (ω τ) hz a5 (a7 rfl) a3 a4 hl (fun i u hu => ?_) d3 (fun i u hu => ?_), fun p b' hb' => ?_⟩
        · have := Classical.choose_spec (each i) u hu
          exact ⟨this.1, this.2.1⟩
        · exact (Classical.choose_spec (each i) u hu).2.2.mv m (fun _ _ _ => rfl)
        · cases p with
          | nil => have hb' : b' = b := hb'; exact .inl ⟨rfl, by rw [hobτ, hb']⟩
          | cons i q => exact .inr ⟨i, q, rfl, hb'⟩
  obtain ⟨F, k1, k2⟩ := key
  let ω' : Nat → Nat → Foot := fun i i' => if i = τ then noFoot else if i = t ∧ i' = j then F else ω i i'
  have hω : ∀ i i' p b, ω' i i' p b → (i = t ∧ i' = j ∧ ((p = [] ∧ φ.l[τ]? = some (some b)) ∨ ∃ a q, p = a :: q ∧ ω τ a q b)) ∨ (i ≠ τ ∧ ¬ (i = t ∧ i' = j) ∧ ω i i' p b) := fun i i' p b hb => by
    simp only [ω'] at hb
    split at hb
    · exact hb.elim
    · rename_i h1
      split at hb
      · rename_i h2; exact .inl ⟨h2.1, h2.2, k2 p b hb⟩
      · rename_i h2; exact .inr ⟨h1, h2, hb⟩
  refine ⟨?_, m, rfl⟩
  refine h.mv m rfl (by simp [St.closeAt, h.len]) (by simp only [St.closeAt, List.length_set]; exact h.lo) (fun a a' b hb hb' => ?_) h.lt (fun b hb => h.occ b (hmemset b hb)) (fun r' hr' => ?_)
    ⟨ω', fun i r' ob' hr' hob' => ?_, fun i hi i' => ?_, ⟨fun a a' i i' p p' b h1 h2 => ?_, fun a i p b h1 hm => ?_, fun a i p b h1 => ?_⟩⟩ (fun i r' hr' hz' => ?_) h.dis
  · have hb : φ'.l[a]? = _ := hb
    have hb' : φ'.l[a']? = _ := hb'
    rw [hφl] at hb hb'
    split at hb
    · cases hb
    · split at hb'
      · cases hb'
      · exact h.inj a a' b hb hb'
  · obtain ⟨i, hi⟩ := List.getElem?_of_mem hr'
    have hi : s'.rows[i]? = some r' := hi
    rw [hrows] at hi
    have hctr : s'.ctr = s.ctr + 1 := rfl
    show r'.ver < s'.ctr
    split at hi
    · cases hi; rw [hctr]; exact Nat.lt_succ_self _
    · split at hi
      · cases hi
        have := h.ver r (List.mem_of_getElem? hr)
        rw [Row.putC_eq]; simp only; omega
      · have := h.ver r' (List.mem_of_getElem? hi); omega
  · have hr0 : s'.rows[i]? = some r' := hr'
    have hob0 : φ'.l[i]? = some ob' := hob'
    rw [hrows] at hr0
    rw [hφl] at hob0
    show RowOk D w φ' s'.rows s'.ctr r' ob' (ω' i)
    split at hr0
    · rename_i hi
      subst hi
      rw [if_pos rfl] at hob0
      cases hr0; cases hob0
      exact ⟨rfl, fun i' => by simp [ω']⟩
    · rename_i hi
      rw [if_neg hi] at hob0
      split at hr0
      · rename_i e'
        subst e'
        cases hr0
        rw [hob] at hob0; cases hob0
        rw [Row.putC_eq]
        refine ⟨cur, c1, by simpa using c2, fun i' hi' => ?_, fun i' u hu => ?_⟩
        · have h0 : r.cells[i']? = none := by simpa using hi'
          simp only [ω', if_neg hne]
          rw [if_neg (fun hh => by rw [hh.2, hc] at h0; cases h0)]
          exact c3 i' h0
        · simp only at hu
          rw [set_get hj] at hu
          split at hu
          · rename_i e'
            subst e'
            cases hu
            refine ⟨x, x1, x2, ?_⟩
            have e0 : ω' t j = F := by simp [ω', hne]
            rw [e0]
            exact k1
          · rename_i e'
            obtain ⟨y, y1, y2, y3⟩ := c4 i' u hu
            refine ⟨y, y1, y2, ?_⟩
            have e0 : ω' t i' = ω t i' := by
              simp only [ω', if_neg hne]
              rw [if_neg (fun hh => e' hh.2.symm)]
            rw [e0]
            exact y3.mv m (fun _ _ _ => rfl)
      · rename_i e'
        have e0 : ω' i = ω i := by
          funext i'
          have h5 : ¬ i = τ := fun hh => hi hh.symm
          have h6 : ¬ (i = t ∧ i' = j) := fun hh => e' hh.1.symm
          simp only [ω', if_neg h5, if_neg h6]
        rw [e0]
        exact (hn.row i r' ob' hr0 hob0).mv m (fun _ _ => rfl) (fun _ _ _ _ => rfl)
  · have hi0 : s'.rows[i]? = none := hi
    rw [hrows] at hi0
    split at hi0
    · cases hi0
    · rename_i h1
      split at hi0
      · cases hi0
      · rename_i h2
        have h5 : ¬ i = τ := fun hh => h1 hh.symm
        have h6 : ¬ (i = t ∧ i' = j) := fun hh => h2 hh.1.symm
        simp only [ω', if_neg h5, if_neg h6]
        exact hn.out i hi0 i'
  · rcases hω a i p b h1 with ⟨e1, e2, y1⟩ | ⟨e1, e2, y1⟩ <;> rcases hω a' i' p' b h2 with ⟨f1, f2, z1⟩ | ⟨f1, f2, z1⟩
    · rcases y1 with ⟨q1, y1⟩ | ⟨a1, q1, q2, y1⟩ <;> rcases z1 with ⟨q3, z1⟩ | ⟨a2, q3, q4, z1⟩
      · exact ⟨by rw [e1, f1], by rw [e2, f2], by rw [q1, q3]⟩
      · exact absurd (List.mem_of_getElem? y1) (hn.ap.nf _ _ _ _ z1)
      · exact absurd (List.mem_of_getElem? z1) (hn.ap.nf _ _ _ _ y1)
      · obtain ⟨_, w1, w2⟩ := hn.ap.uq _ _ _ _ _ _ b y1 z1
        exact ⟨by rw [e1, f1], by rw [e2, f2], by rw [q2, q4, w1, w2]⟩
    · rcases y1 with ⟨q1, y1⟩ | ⟨a1, q1, q2, y1⟩
      · exact absurd (List.mem_of_getElem? y1) (hn.ap.nf _ _ _ _ z1)
      · exact absurd (hn.ap.uq _ _ _ _ _ _ b y1 z1).1.symm f1
    · rcases z1 with ⟨q1, z1⟩ | ⟨a1, q1, q2, z1⟩
      · exact absurd (List.mem_of_getElem? z1) (hn.ap.nf _ _ _ _ y1)
      · exact absurd (hn.ap.uq _ _ _ _ _ _ b y1 z1).1 e1
    · exact hn.ap.uq _ _ _ _ _ _ b y1 z1
  · have hm : some b ∈ φ.l.set τ none := hm
    rcases hω a i p b h1 with ⟨e1, e2, ⟨q1, y1⟩ | ⟨a1, q1, q2, y1⟩⟩ | ⟨e1, e2, y1⟩
    · obtain ⟨i0, hi0⟩ := List.getElem?_of_mem hm
      have hi0 : φ'.l[i0]? = _ := hi0
      rw [hφl] at hi0
      split at hi0
      · cases hi0
      · rename_i h3
        exact h3 (h.inj τ i0 b y1 hi0)
    · exact hn.ap.nf _ _ _ _ y1 (hmemset b hm)
    · exact hn.ap.nf _ _ _ _ y1 (hmemset b hm)
  · rcases hω a i p b h1 with ⟨e1, e2, ⟨q1, y1⟩ | ⟨a1, q1, q2, y1⟩⟩ | ⟨e1, e2, y1⟩
    · exact h.occ b (List.mem_of_getElem? y1)
    · exact hn.ap.oc _ _ _ _ y1
    · exact hn.ap.oc _ _ _ _ y1
  · have hr0 : s'.rows[i]? = some r' := hr'
    show φ'.l[i]? = some none
    rw [hrows] at hr0
    rw [hφl]
    split at hr0
    · rename_i hi; rw [if_pos hi]
    · rename_i hi
      rw [if_neg hi]
      split at hr0
      · rename_i e'
        subst e'
        cases hr0
        rw [Row.putC_eq] at hz'
        exact h.sz0 t r hr hz'
      · exact h.sz0 i r' hr0 hz'
mutual
def AV.mvd (i j vi vj c : Nat) : AV → AV
  | .ref t v o n => match Nat.beq t i && Nat.beq v vi with
    | true => .ref j c o n
    | false => match Nat.beq t j && Nat.beq v vj with
      | true => .ref i c o n
      | false => .ref t v o n
  | .ptr t v o => match Nat.beq t i && Nat.beq v vi with
    | true => .ptr j c o
    | false => match Nat.beq t j && Nat.beq v vj with
      | true => .ptr i c o
      | false => .ptr t v o
  | .agg xs => .agg (mvdL i j vi vj c xs)
  | x => x
def mvdL (i j vi vj c : Nat) : List AV → List AV
  | [] => []
  | x :: xs => x.mvd i j vi vj c :: mvdL i j vi vj c xs
end
theorem mvdL_get {i j vi vj c : Nat} : ∀ (us : List AV) (k : Nat), (mvdL i j vi vj c us)[k]? = (us[k]?).map (AV.mvd i j vi vj c)
  | [], k => by simp [mvdL]
  | u :: us, 0 => by simp [mvdL]
  | u :: us, k + 1 => by simp [mvdL, mvdL_get us k]
theorem mvdL_length {i j vi vj c : Nat} : ∀ (us : List AV), (mvdL i j vi vj c us).length = us.length
  | [] => rfl
  | u :: us => by simp [mvdL, mvdL_length us]
def Row.at' (r : Row) (c : Nat) : Row :=
  match r with
  | ⟨_, e, z, cs⟩ => ⟨c, e, z, cs⟩
theorem Row.at'_eq (r : Row) (c : Nat) : r.at' c = { r with ver := c } := by cases r; rfl
def mvdR (i j vi vj c : Nat) (b : Bool) (r : Row) : Row :=
  match b with
  | true => r.putC (mvdL i j vi vj c r.cells)
  | false => r
def mvdRows (i j vi vj c : Nat) : List Bool → List Row → List Row
  | b :: bs, r :: rs => mvdR i j vi vj c b r :: mvdRows i j vi vj c bs rs
  | _, rs => rs
theorem mvdRows_get {i j vi vj c : Nat} : ∀ (bs : List Bool) (rs : List Row) (k : Nat), (mvdRows i j vi vj c bs rs)[k]? = (rs[k]?).map (mvdR i j vi vj c (bs.getD k false))
  | [], rs, k => by
    have : mvdRows i j vi vj c [] rs = rs := by cases rs <;> rfl
    rw [this]
    cases h : rs[k]? <;> simp [mvdR]
  | b :: bs, [], k => by simp [mvdRows]
  | b :: bs, r :: rs, 0 => by simp [mvdRows]
  | b :: bs, r :: rs, k + 1 => by simpa [mvdRows] using mvdRows_get bs rs k
theorem mvdR_ver {i j vi vj c : Nat} (b : Bool) (r : Row) : (mvdR i j vi vj c b r).ver = r.ver ∧ (mvdR i j vi vj c b r).ety = r.ety ∧ (mvdR i j vi vj c b r).size = r.size := by
  cases b
  · exact ⟨rfl, rfl, rfl⟩
  · cases r; exact ⟨rfl, rfl, rfl⟩
theorem mvdR_cells {i j vi vj c : Nat} (b : Bool) (r : Row) : (mvdR i j vi vj c b r).cells = if b then mvdL i j vi vj c r.cells else r.cells := by
  cases b
  · rfl
  · cases r; rfl
theorem mvdRows_length {i j vi vj c : Nat} : ∀ (bs : List Bool) (rs : List Row), (mvdRows i j vi vj c bs rs).length = rs.length
  | [], rs => by cases rs <;> rfl
  | b :: bs, [] => rfl
  | b :: bs, r :: rs => by simp [mvdRows, mvdRows_length bs rs]
def St.swapAt (s : St) (i j : Nat) (bs : List Bool) (ri rj : Row) : St :=
  { s with env := mvdL i j ri.ver rj.ver s.ctr s.env, rows := mvdRows i j ri.ver rj.ver s.ctr bs ((s.rows.set i (rj.at' s.ctr)).set j (ri.at' s.ctr)), ctr := s.ctr + 1 }
theorem SR.swapAt (h : SR D w φ env s) {i j : Nat} {bs : List Bool} {ri rj : Row} (hi : s.rows[i]? = some ri) (hj : s.rows[j]? = some rj) (hne : i ≠ j) (hli : s.low ≤ i) (hlj : s.low ≤ j) :
    ∃ φ', SR D w φ' env (s.swapAt i j bs ri rj) ∧ Mv w φ s.rows s.ctr w φ' (s.swapAt i j bs ri rj).rows (s.swapAt i j bs ri rj).ctr ∧ φ'.O = φ.O ∧ (∀ k : Nat, k < s.low → φ'.l[k]? = φ.l[k]?) := by
  obtain ⟨ω, hn⟩ := h.nest
  have hil : i < s.rows.length := (List.getElem?_eq_some_iff.1 hi).1
  have hjl : j < s.rows.length := (List.getElem?_eq_some_iff.1 hj).1
  have hiφ : i < φ.l.length := by rw [h.len]; exact hil
  have hjφ : j < φ.l.length := by rw [h.len]; exact hjl
  let φ' : Places := ⟨(φ.l.set i φ.l[j]).set j φ.l[i], φ.O⟩
  let s' := s.swapAt i j bs ri rj
  let π : Nat → Nat := fun t => if j = t then i else if i = t then j else t
  have hobi : φ.l[i]? = some φ.l[i] := List.getElem?_eq_getElem hiφ
  have hobj : φ.l[j]? = some φ.l[j] := List.getElem?_eq_getElem hjφ
  have hctr : s'.ctr = s.ctr + 1 := rfl
  have hrows : ∀ (t : Nat) (r' : Row), s'.rows[t]? = some r' → ∃ r, s.rows[π t]? = some r ∧ r'.ety = r.ety ∧ r'.size = r.size ∧ ((π t ≠ t ∧ r'.ver = s.ctr) ∨ (π t = t ∧ r'.ver = r.ver)) ∧ (r'.cells = r.cells ∨ r'.cells = mvdL i j ri.ver rj.ver s.ctr r.cells) := fun t r' hr' => by
    have hr' : (mvdRows i j ri.ver rj.ver s.ctr bs ((s.rows.set i (rj.at' s.ctr)).set j (ri.at' s.ctr)))[t]? = some r' := hr'
    rw [mvdRows_get, set_get (by simpa using hjl), set_get hil] at hr'
    obtain ⟨r0, h0, rfl⟩ := Option.map_eq_some_iff.1 hr'
    obtain ⟨v1, v2, v3⟩ := mvdR_ver (i := i) (j := j) (vi := ri.ver) (vj := rj.ver) (c := s.ctr) (bs.getD t false) r0
    have v4 := mvdR_cells (i := i) (j := j) (vi := ri.ver) (vj := rj.ver) (c := s.ctr) (bs.getD t false) r0
    have v5 : ∀ r : Row, r0.cells = r.cells → (mvdR i j ri.ver rj.ver s.ctr (bs.getD t false) r0).cells = r.cells ∨ (mvdR i j ri.ver rj.ver s.ctr (bs.getD t false) r0).cells = mvdL i j ri.ver rj.ver s.ctr r.cells := fun r e => by
      rw [v4, e]
      split
      · exact .inr rfl
      · exact .inl rfl
    simp only [π]
    split at h0
    · rename_i e; cases h0
      subst e
      rw [if_pos rfl]
      rw [Row.at'_eq] at v1 v2 v3 v5 ⊢
      exact ⟨ri, hi, v2, v3, .inl ⟨hne, v1⟩, v5 ri rfl⟩
    · rename_i e
      rw [if_neg e]
      split at h0
      · rename_i e'; cases h0
        subst e'
        rw [if_pos rfl]
        rw [Row.at'_eq] at v1 v2 v3 v5 ⊢
        exact ⟨rj, hj, v2, v3, .inl ⟨fun h => hne h.symm, v1⟩, v5 rj rfl⟩
      · rename_i e'
        rw [if_neg e']
        exact ⟨r0, h0, v2, v3, .inr ⟨rfl, v1⟩, v5 r0 rfl⟩
  have hrowsN : ∀ t : Nat, s'.rows[t]? = none → s.rows[π t]? = none := fun t ht => by
    have ht : (mvdRows i j ri.ver rj.ver s.ctr bs ((s.rows.set i (rj.at' s.ctr)).set j (ri.at' s.ctr)))[t]? = none := ht
    rw [mvdRows_get, set_get (by simpa using hjl), set_get hil, Option.map_eq_none_iff] at ht
    simp only [π]
    split at ht
    · cases ht
    · rename_i e
      rw [if_neg e]
      split at ht
      · cases ht
      · rename_i e'
        rw [if_neg e']; exact ht
  have hφπ : ∀ t : Nat, φ'.l[t]? = φ.l[π t]? := fun t => by
    show ((φ.l.set i _).set j _)[t]? = _
    rw [set_get (by simpa using hjφ), set_get hiφ]
    simp only [π]
    split
    · exact hobi.symm
    · split
      · exact hobj.symm
      · rfl
  have hππ : ∀ t, π (π t) = t := fun t => by
    simp only [π]
    split <;> split <;> (try split) <;> omega
  have hπ : ∀ t t', π t = π t' → t = t' := fun t t' e => by rw [← hππ t, ← hππ t', e]
  have m : Mv w φ s.rows s.ctr w φ' s'.rows s'.ctr := by
    refine ⟨Nat.le_refl _, Nat.le_succ _, fun b hb hF => ⟨hF, rfl⟩, fun t r' hr' hlt => ?_⟩
    obtain ⟨r, a1, a2, a3, a4, a5⟩ := hrows t r' hr'
    rcases a4 with ⟨_, a4⟩ | ⟨e, a4⟩
    · omega
    · exact ⟨r, by rw [← e]; exact a1, a4.symm, a2.symm, a3.symm, by rw [hφπ, e], fun g' cur' _ hg' => ⟨cur', hg', rfl⟩⟩
  have hRef : ∀ {t : Nat} {r r' : Row} {off n : Nat} {v : Value}, r'.ety = r.ety → r'.size = r.size → RefOk w φ r (π t) off n v → RefOk w φ' r' t off n v := fun {t r r' off n v} e1 e2 hr => by
    unfold RefOk at hr ⊢
    rw [hφπ, e1, e2]; exact hr
  have hπi : π i = j := (if_neg (fun e => hne e.symm)).trans (if_pos rfl)
  have hπj : π j = i := if_pos rfl
  have hvr : ∀ {v : Value} {u : AV}, VR D w φ s.rows s.ctr v u → VR D w φ' s'.rows s'.ctr v (u.mvd i j ri.ver rj.ver s.ctr) := fun {v u} hv => by
    induction hv with
    | un v => exact .un v
    | int k n => exact .int k n
    | bool b => exact .bool b
    | str b => exact .str b
    | nil => exact .nil
    | sl0 A cap c hm => exact .sl0 A cap c hm
    | sl ad c n cap cells vs hs hF hD hlt hn hm hl hc h1 hv ih => exact (VR.sl ad c n cap cells vs hs hF hD hlt hn hm hl hc h1 hv).mv m
    | rd ad cells vs hs hF hlt hl hc h1 hv ih => exact (VR.rd ad cells vs hs hF hlt hl hc h1 hv).mv m
    | tup vs us hl hv ih => exact (VR.tup vs us hl hv).mv m
    | ptr t ver off v hlt h1 hx =>
      unfold AV.mvd
      split
      · rename_i hb
        rw [Bool.and_eq_true] at hb
        have e1 : t = i := Nat.eq_of_beq_eq_true hb.1
        have e2 : ver = ri.ver := Nat.eq_of_beq_eq_true hb.2
        subst e1
        refine .ptr _ _ _ _ (Nat.lt_succ_self _) h1 fun r' _ _ => ?_
        obtain ⟨g, a1, a2⟩ := hx ri hi e2.symm
        exact ⟨g, by rw [hφπ, hπj]; exact a1, a2⟩
      · split
        · rename_i hb
          rw [Bool.and_eq_true] at hb
          have e1 : t = j := Nat.eq_of_beq_eq_true hb.1
          have e2 : ver = rj.ver := Nat.eq_of_beq_eq_true hb.2
          subst e1
          refine .ptr _ _ _ _ (Nat.lt_succ_self _) h1 fun r' _ _ => ?_
          obtain ⟨g, a1, a2⟩ := hx rj hj e2.symm
          exact ⟨g, by rw [hφπ, hπi]; exact a1, a2⟩
        · exact (VR.ptr t ver off v hlt h1 hx).mv m
    | agg cs cells hl h1 hv ih =>
      refine .agg cs (mvdL i j ri.ver rj.ver s.ctr cells) (by rw [mvdL_length]; exact hl) h1 fun k v u hk hu => ?_
      rw [mvdL_get] at hu
      obtain ⟨u0, hu0, rfl⟩ := Option.map_eq_some_iff.1 hu
      exact ih k v u0 hk hu0
    | ref t ver off n v hlt h1 hx =>
      unfold AV.mvd
      split
      · rename_i hb
        rw [Bool.and_eq_true] at hb
        have e1 : t = i := Nat.eq_of_beq_eq_true hb.1
        have e2 : ver = ri.ver := Nat.eq_of_beq_eq_true hb.2
        subst e1
        refine .ref _ _ _ _ _ (Nat.lt_succ_self _) h1 fun r' hr' _ => ?_
        obtain ⟨r, a1, a2, a3, _⟩ := hrows _ r' hr'
        rw [hπj, hi] at a1; cases a1
        exact hRef a2 a3 (by rw [hπj]; exact hx ri hi e2.symm)
      · split
        · rename_i hb
          rw [Bool.and_eq_true] at hb
          have e1 : t = j := Nat.eq_of_beq_eq_true hb.1
          have e2 : ver = rj.ver := Nat.eq_of_beq_eq_true hb.2
          subst e1
          refine .ref _ _ _ _ _ (Nat.lt_succ_self _) h1 fun r' hr' _ => ?_
          obtain ⟨r, a1, a2, a3, _⟩ := hrows _ r' hr'
          rw [hπi, hj] at a1; cases a1
          exact hRef a2 a3 (by rw [hπi]; exact hx rj hj e2.symm)
        · exact (VR.ref t ver off n v hlt h1 hx).mv m
  have hcv : ∀ {v : Value} {u : AV} {F : Foot}, CV D w φ s.rows s.ctr v u F → CV D w φ' s'.rows s'.ctr v (u.mvd i j ri.ver rj.ver s.ctr) F := fun {v u F} hv => by
    cases hv with
    | vr v u h => exact .vr _ _ (hvr h)
    | own0 e z hz => exact .own0 e z hz
    | own e z n g cap cur cells vs F hz hg hs hn hm hl hv hF hc => exact (CV.own e z n g cap cur cells vs F hz hg hs hn hm hl hv hF hc).mv m (fun _ _ _ => rfl)
  have hrow : ∀ {r r' : Row} {ob : Option Nat} {F : Nat → Foot}, r'.ety = r.ety → (r'.cells = r.cells ∨ r'.cells = mvdL i j ri.ver rj.ver s.ctr r.cells) → RowOk D w φ s.rows s.ctr r ob F → RowOk D w φ' s'.rows s'.ctr r' ob F := fun {r r' ob F} e1 e2 hr => by
    rcases e2 with e2 | e2
    · have := hr.mv m (fun _ _ => rfl) (fun _ _ _ _ => rfl)
      unfold RowOk at this ⊢
      rw [e1, e2]; exact this
    · cases ob with
      | none => exact ⟨by rw [e2, hr.1]; rfl, hr.2⟩
      | some g =>
        obtain ⟨cur, c1, c2, c3, c4⟩ := hr
        refine ⟨cur, by rw [e1]; exact c1, by rw [e2, mvdL_length]; exact c2, fun k hk => ?_, fun k u hu => ?_⟩
        · rw [e2, mvdL_get, Option.map_eq_none_iff] at hk
          exact c3 k hk
        · rw [e2, mvdL_get] at hu
          obtain ⟨u0, hu0, rfl⟩ := Option.map_eq_some_iff.1 hu
          obtain ⟨v, x1, x2, x3⟩ := c4 k u0 hu0
          exact ⟨v, x1, x2, hcv x3⟩
  have hmem : ∀ b, some b ∈ φ'.l → some b ∈ φ.l := fun b hb => by
    obtain ⟨t, ht⟩ := List.getElem?_of_mem hb
    rw [hφπ] at ht
    exact List.mem_of_getElem? ht
  refine ⟨φ', ⟨h.dis, h.dlt, by simp [φ', St.swapAt, mvdRows_length, h.len], by simp only [St.swapAt, mvdRows_length, List.length_set]; exact h.lo, fun t t' b hb hb' => ?_, h.lt, fun b hb => h.occ b (hmem b hb), fun r' hr' => ?_,
    ⟨fun t => ω (π t), fun t r' ob' hr' hob' => ?_, fun t ht k => ?_, ⟨fun a a' k k' p p' b h1 h2 => ?_, fun a k p b h1 hm => ?_, fun a k p b h1 => ?_⟩⟩, fun t r' hr' hz' => ?_, ?_, fun k v u hv hu => ?_⟩, m, rfl, fun k hk => ?_⟩
  · rw [hφπ] at hb hb'
    exact hπ _ _ (h.inj _ _ b hb hb')
  · obtain ⟨t, ht⟩ := List.getElem?_of_mem hr'
    obtain ⟨r, a1, a2, a3, a4, a5⟩ := hrows t r' ht
    show r'.ver < s'.ctr
    rcases a4 with ⟨_, a4⟩ | ⟨_, a4⟩
    · omega
    · have := h.ver r (List.mem_of_getElem? a1); omega
  · obtain ⟨r, a1, a2, a3, a4, a5⟩ := hrows t r' hr'
    have hob0 : φ'.l[t]? = some ob' := hob'
    rw [hφπ] at hob0
    exact hrow a2 a5 (hn.row (π t) r ob' a1 hob0)
  · exact hn.out _ (hrowsN t ht) k
  · obtain ⟨q1, q2, q3⟩ := hn.ap.uq _ _ _ _ _ _ b h1 h2
    exact ⟨hπ _ _ q1, q2, q3⟩
  · exact hn.ap.nf _ _ _ _ h1 (hmem b hm)
  · exact hn.ap.oc _ _ _ _ h1
  · obtain ⟨r, a1, a2, a3, a4, a5⟩ := hrows t r' hr'
    show φ'.l[t]? = some none
    rw [hφπ]
    exact h.sz0 (π t) r a1 (by rw [← a3]; exact hz')
  · show env.length = (mvdL _ _ _ _ _ s.env).length
    rw [mvdL_length]; exact h.elen
  · have hu : (mvdL i j ri.ver rj.ver s.ctr s.env)[k]? = some u := hu
    rw [mvdL_get] at hu
    obtain ⟨u0, hu0, rfl⟩ := Option.map_eq_some_iff.1 hu
    exact hvr (h.env k v u0 hv hu0)
  · rw [hφπ]
    simp only [π]
    rw [if_neg (by omega), if_neg (by omega)]
inductive St.closes : St → St → Prop
  | refl (s : St) : St.closes s s
  | step (s s' : St) (t j τ v n z : Nat) (e : TypeId) (r : Row) (cs : List AV) (hr : s.rows[t]? = some r) (hc : r.cells[j]? = some (.ref τ v 0 n)) (hτ : s.rows[τ]? = some ⟨v, e, z, cs⟩) (hne : t ≠ τ) (hlow : s.low ≤ τ) (hz : z ≠ 0) (hl : cs.length = n * z)
      (h : St.closes (s.closeAt t j τ r e z n cs) s') : St.closes s s'
  | swap (s s' : St) (i j : Nat) (bs : List Bool) (ri rj : Row) (hi : s.rows[i]? = some ri) (hj : s.rows[j]? = some rj) (hne : i ≠ j) (hli : s.low ≤ i) (hlj : s.low ≤ j) (h : St.closes (s.swapAt i j bs ri rj) s') : St.closes s s'
  | opn (s s' : St) (τ j : Nat) (r : Row) (e : TypeId) (z n : Nat) (cs : List AV) (hr : s.rows[τ]? = some r) (hc : r.cells[j]? = some (.own e z n cs)) (h : St.closes (s.openAt τ j r e z n cs) s') : St.closes s s'
theorem SR.closes {s s' : St} (hcl : St.closes s s') : ∀ {φ : Places}, SR D w φ env s → ∃ φ', SR D w φ' env s' ∧ Mv w φ s.rows s.ctr w φ' s'.rows s'.ctr ∧ φ'.O = φ.O ∧ (∀ i : Nat, i < s.low → φ'.l[i]? = φ.l[i]?) ∧ s'.low = s.low := by
  induction hcl with
  | refl s => intro φ h; exact ⟨φ, h, Mv.refl _ _ _ _, rfl, fun _ _ => rfl, rfl⟩
  | step s s' t j τ v n z e r cs hr hc hτ hne hlow hz hl _ ih =>
    intro φ h
    obtain ⟨h1, h2, h3⟩ := h.closeAt hr hc hτ hne hz hl
    obtain ⟨φ', a1, a2, a3, a4, a5⟩ := ih h1
    refine ⟨φ', a1, h2.trans a2, a3, fun i hi => (a4 i (by rw [h3]; exact hi)).trans ?_, a5.trans h3⟩
    show (φ.l.set τ none)[i]? = _
    rw [List.getElem?_set, if_neg (by omega)]
  | swap s s' i j bs ri rj hi hj hne hli hlj _ ih =>
    intro φ h
    obtain ⟨φ1, h1, h2, h3, h4⟩ := h.swapAt (bs := bs) hi hj hne hli hlj
    obtain ⟨φ', a1, a2, a3, a4, a5⟩ := ih h1
    exact ⟨φ', a1, h2.trans a2, a3.trans h3, fun k hk => (a4 k hk).trans (h4 k hk), a5⟩
  | opn s s' τ j r e z n cs hr hc _ ih =>
    intro φ h
    obtain ⟨ob, g, v, cur, _, _, _, _, h1, h2, _⟩ := h.openAt hr hc
    obtain ⟨φ', a1, a2, a3, a4, a5⟩ := ih h1
    refine ⟨φ', a1, h2.trans a2, a3, fun k hk => (a4 k hk).trans ?_, a5⟩
    show (φ.l ++ [ob])[k]? = _
    rw [List.getElem?_append_left (by rw [h.len]; have := h.lo; omega)]
theorem Inv.closes {K : Nat → Prop} {w0 : World} {φ0 : Places} {a : Act} {s s' : St} (hcl : St.closes s s') {φ : Places} (h : Inv D K w0 φ0 φ a w s) : ∃ φ', Inv D K w0 φ0 φ' a w s' ∧ Mv w φ s.rows s.ctr w φ' s'.rows s'.ctr := by
  obtain ⟨φ', a1, a2, a3, a4, a5⟩ := h.sr.closes hcl
  refine ⟨φ', ⟨a1, h.kp, by rw [a3]; exact h.ap, ?_, by rw [a5]; exact h.lc, h.kl, h.df⟩, a2⟩
  rw [a5]
  exact h.lw.trans (Lows.new a4 (fun _ _ => rfl))
end
end Go.Am
