/- The abstract machine, part F: stores into a row; append. -/
import Derived.Test.YtegoncendpboiaaAmE
namespace Go.Am
open Go.RowKit
variable {D : Nat → Prop}

def spliceA (cur : Array Value) : Nat → List Value → Array Value
  | _, [] => cur
  | o, v :: r => spliceA (cur.setIfInBounds o v) (o + 1) r

theorem spliceA_size (vs : List Value) : ∀ (cur : Array Value) (o : Nat), (spliceA cur o vs).size = cur.size := by
  induction vs with
  | nil => intros; rfl
  | cons v r ih => intro cur o; rw [spliceA, ih]; simp

theorem spliceA_get (vs : List Value) : ∀ (cur : Array Value) (o j : Nat), o + vs.length ≤ cur.size → (spliceA cur o vs)[j]? = if o ≤ j ∧ j < o + vs.length then vs[j - o]? else cur[j]? := by
  induction vs with
  | nil => intro cur o j _; simp [spliceA]; omega
  | cons v r ih =>
    intro cur o j h
    simp only [List.length_cons] at h ⊢
    rw [spliceA, ih _ _ _ (by simp; omega)]
    by_cases h1 : o + 1 ≤ j ∧ j < o + 1 + r.length
    · rw [if_pos h1, if_pos (by omega)]
      have : j - o = (j - (o + 1)) + 1 := by omega
      rw [this]; simp
    · rw [if_neg h1]
      by_cases h2 : j = o
      · subst h2
        rw [if_pos (by omega)]
        simp [Array.getElem?_setIfInBounds]
        omega
      · rw [if_neg (by omega), Array.getElem?_setIfInBounds, if_neg (by omega)]

theorem heap_setCells (vs : List Value) : ∀ (w : World) (g o : Nat) (cur : Array Value) (t : TypeId) (fr : Nat × Nat), w.heap[g]? = some (.cells cur t fr) →
    (w.setCells g o vs).heap[g]? = some (.cells (spliceA cur o vs) t fr) ∧ (w.setCells g o vs).heap.size = w.heap.size ∧ (∀ b, b ≠ g → (w.setCells g o vs).heap[b]? = w.heap[b]?) ∧
    (w.setCells g o vs).os = w.os ∧ (w.setCells g o vs).tape = w.tape ∧ (w.setCells g o vs).output = w.output := by
  induction vs with
  | nil => intro w g o cur t fr h; exact ⟨h, rfl, fun _ _ => rfl, rfl, rfl, rfl⟩
  | cons v r ih =>
    intro w g o cur t fr h
    have h1 : (w.setCell ⟨g, o, none⟩ v).heap[g]? = some (.cells (cur.setIfInBounds o v) t fr) := by
      simp [World.setCell, Array.getElem?_modify, h]
    obtain ⟨a1, a2, a3, a4, a5, a6⟩ := ih (w.setCell ⟨g, o, none⟩ v) g (o + 1) _ t fr h1
    refine ⟨a1, ?_, fun b hb => ?_, a4, a5, a6⟩
    · simp only [World.setCells]; rw [a2]; simp [World.setCell]
    · simp only [World.setCells]; rw [a3 b hb]; exact Below.heap_setCell w _ v b hb

section
variable {P : Program} {w : World} {φ : Places} {s : St} {env : List Value}

def St.setRow (s : St) (t : Nat) (r : Row) : St := { s with rows := s.rows.set t r }

/-- What is asked of the new cells of a row: each a value, or what stood there. -/
def NewCells (D : Nat → Prop) (w : World) (φ : Places) (s : St) (r : Row) (cur cur' : Array Value) (us : List AV) : Prop :=
  ∀ (j : Nat) (u : AV), us[j]? = some u → ∃ v, cur'[j]? = some v ∧ v.oneCell' = true ∧ (VR D w φ s.rows s.ctr v u ∨ (r.cells[j]? = some u ∧ cur[j]? = some v))

/-- The blocks of the new cells: those of the cells that stay. -/
theorem foot_new {D : Nat → Prop} {w w' : World} {φ φ' : Places} {s s' : St} {r : Row} {cur cur' : Array Value} {us : List AV} {F : Nat → Foot} (m : Mv w φ s.rows s.ctr w' φ' s'.rows s'.ctr)
    (hold : ∀ (j : Nat) (u : AV), r.cells[j]? = some u → ∃ v, cur[j]? = some v ∧ v.oneCell' = true ∧ CV D w φ s.rows s.ctr v u (F j)) (hb : ∀ (j : Nat) (p : List Nat) (b : Nat), F j p b → w'.heap[b]? = w.heap[b]?) (hv : NewCells D w φ s r cur cur' us) :
    ∃ F' : Nat → Foot, (∀ j, F' j = F j ∨ F' j = noFoot) ∧ (∀ j : Nat, us[j]? = none → F' j = noFoot) ∧ ∀ (j : Nat) (u : AV), us[j]? = some u → ∃ v, cur'[j]? = some v ∧ v.oneCell' = true ∧ CV D w' φ' s'.rows s'.ctr v u (F' j) := by
  have each : ∀ j : Nat, ∃ G : Foot, (G = F j ∨ G = noFoot) ∧ (us[j]? = none → G = noFoot) ∧ ∀ u, us[j]? = some u → ∃ v, cur'[j]? = some v ∧ v.oneCell' = true ∧ CV D w' φ' s'.rows s'.ctr v u G := fun j => by
    cases hu : us[j]? with
    | none => exact ⟨noFoot, .inr rfl, fun _ => rfl, fun u h => by cases h⟩
    | some u =>
      obtain ⟨v, h1, h2, h3 | ⟨h3, h4⟩⟩ := hv j u hu
      · exact ⟨noFoot, .inr rfl, fun h => (by cases h), fun u' h => by cases h; exact ⟨v, h1, h2, .vr _ _ (h3.mv m)⟩⟩
      · obtain ⟨v', a1, a2, a3⟩ := hold j u h3
        rw [h4] at a1; cases a1
        exact ⟨F j, .inl rfl, fun h => (by cases h), fun u' h => by cases h; exact ⟨v, h1, h2, a3.mv m (hb j)⟩⟩
  exact ⟨fun j => Classical.choose (each j), fun j => (Classical.choose_spec (each j)).1, fun j => (Classical.choose_spec (each j)).2.1, fun j u hu => (Classical.choose_spec (each j)).2.2 u hu⟩

/-- One row's blocks have become fewer. -/
theorem Apart.less {φ φ' : Places} {ω : Nat → Nat → Foot} (h : Apart φ ω) {t : Nat} {F' : Nat → Foot} (hF : ∀ j, F' j = ω t j ∨ F' j = noFoot) (hl : ∀ b, some b ∈ φ'.l → some b ∈ φ.l ∨ ¬ φ.O b) (hO : ∀ b, φ.O b → φ'.O b) : Apart φ' (fun t' => if t' = t then F' else ω t') := by
  have key : ∀ t' j p b, (if t' = t then F' else ω t') j p b → ω t' j p b := fun t' j p b hb => by
    split at hb
    · rename_i e
      subst e
      rcases hF j with e | e
      · rw [e] at hb; exact hb
      · rw [e] at hb; exact hb.elim
    · exact hb
  refine ⟨fun t1 t2 j j' p p' b h1 h2 => h.uq _ _ _ _ _ _ b (key _ _ _ _ h1) (key _ _ _ _ h2), fun t1 j p b h1 hm => ?_, fun t1 j p b h1 => hO b (h.oc _ _ _ _ (key _ _ _ _ h1))⟩
  rcases hl b hm with h2 | h2
  · exact h.nf _ _ _ _ (key _ _ _ _ h1) h2
  · exact h2 (h.oc _ _ _ _ (key _ _ _ _ h1))

/-- A row is written: same version, other cells. -/
theorem SR.setRow (h : SR D w φ env s) {t g : Nat} {r : Row} {cur cur' : Array Value} {us : List AV} {w' : World} (hr : s.rows[t]? = some r) (hg : φ.l[t]? = some (some g)) (hc : w.heap[g]? = some (.cells cur r.ety (0, 0)))
    (hc' : w'.heap[g]? = some (.cells cur' r.ety (0, 0))) (hs : cur'.size = cur.size) (hz : w'.heap.size = w.heap.size) (ho : ∀ b, b ≠ g → w'.heap[b]? = w.heap[b]?)
    (hl : us.length ≤ cur'.size) (hv : NewCells D w φ s r cur cur' us) :
    SR D w' φ env (s.setRow t { r with cells := us }) ∧ Mv w φ s.rows s.ctr w' φ (s.setRow t { r with cells := us }).rows s.ctr := by
  have ht : t < s.rows.length := (List.getElem?_eq_some_iff.1 hr).1
  have hmem : some g ∈ φ.l := List.mem_of_getElem? hg
  have m : Mv w φ s.rows s.ctr w' φ (s.setRow t { r with cells := us }).rows s.ctr := by
    refine ⟨Nat.le_of_eq hz.symm, Nat.le_refl _, fun b hb hF => ⟨hF, ho b (fun e => hF (by rw [e]; exact h.occ g hmem))⟩, fun t' r' hr' hlt => ?_⟩
    simp only [St.setRow] at hr'
    rw [List.getElem?_set] at hr'
    split at hr'
    · rename_i e
      subst e
      try rw [if_pos ht] at hr'
      cases hr'
      refine ⟨r, hr, rfl, rfl, rfl, rfl, fun g' cur0 hg' hc0 => ?_⟩
      rw [hg] at hg'; cases hg'
      rw [hc] at hc0; cases hc0
      exact ⟨cur', hc', hs⟩
    · rename_i e
      refine ⟨r', hr', rfl, rfl, rfl, rfl, fun g' cur0 hg' hc0 => ⟨cur0, ?_, rfl⟩⟩
      rw [ho g' (fun e' => e (h.inj t t' g hg (by rw [← e']; exact hg')))]
      exact hc0
  obtain ⟨ω, hn⟩ := h.nest
  have hne : ∀ t' j p b, ω t' j p b → w'.heap[b]? = w.heap[b]? := fun t' j p b hb => ho b (fun e => hn.ap.nf t' j p b hb (by rw [e]; exact hmem))
  obtain ⟨cur0, c1, c2, c3, c4⟩ := hn.row t r (some g) hr hg
  rw [hc] at c1; cases c1
  obtain ⟨F', f1, f2, f3⟩ := foot_new (s' := s.setRow t { r with cells := us }) m c4 (hne t) hv
  refine ⟨h.mv m rfl (by simp [St.setRow, h.len]) (by simp only [St.setRow, List.length_set]; exact h.lo) h.inj (fun g' hg' => by rw [hz]; exact h.lt g' hg') h.occ (fun r' hr' => ?_)
    ⟨fun t' => if t' = t then F' else ω t', fun t' r' ob hr' hob => ?_, fun t' ht' j => ?_, hn.ap.less f1 (fun b hb => .inl hb) (fun b hb => hb)⟩ (fun t' r' hr' hz' => ?_) h.dis, m⟩
  · simp only [St.setRow] at hr'
    rcases List.mem_or_eq_of_mem_set hr' with hr' | rfl
    · exact h.ver r' hr'
    · exact h.ver r (List.mem_of_getElem? hr)
  · simp only [St.setRow] at hr'
    rw [List.getElem?_set] at hr'
    split at hr'
    · rename_i e
      subst e
      try rw [if_pos ht] at hr'
      cases hr'
      rw [hg] at hob; cases hob
      rw [if_pos rfl]
      exact ⟨cur', hc', hl, f2, f3⟩
    · rename_i e
      rw [if_neg (fun e' => e e'.symm)]
      refine (hn.row t' r' ob hr' hob).mv m (fun g' hg' => ho g' (fun e' => e (h.inj t t' g hg ?_))) (hne t')
      rw [hob, hg', e']
  · have ht0 : s.rows[t']? = none := by
      rw [List.getElem?_eq_none_iff] at ht' ⊢
      simpa [St.setRow] using ht'
    rw [if_neg (fun e => by rw [e, hr] at ht0; cases ht0)]
    exact hn.out t' ht0 j
  · simp only [St.setRow] at hr'
    rw [List.getElem?_set] at hr'
    split at hr'
    · rename_i e
      subst e
      try rw [if_pos ht] at hr'
      cases hr'
      exact h.sz0 t r hr hz'
    · exact h.sz0 t' r' hr' hz'

/-- A row is got anew: another version, in the same block or in a new one. -/
theorem SR.reRow (h : SR D w φ env s) {t : Nat} {r r' : Row} {ob : Option Nat} {g' : Nat} {cur cur' : Array Value} {w' : World} (hr : s.rows[t]? = some r) (hob : φ.l[t]? = some ob) (hr' : r'.ver = s.ctr) (hz0 : r'.size ≠ 0)
    (hcur : ∀ g, ob = some g → w.heap[g]? = some (.cells cur r.ety (0, 0)))
    (hg' : ob = some g' ∨ w.heap.size ≤ g') (hlt' : g' < w'.heap.size) (hc' : w'.heap[g']? = some (.cells cur' r'.ety (0, 0))) (hz : w.heap.size ≤ w'.heap.size) (ho : ∀ b, b < w.heap.size → some b ≠ ob → w'.heap[b]? = w.heap[b]?)
    (hl : r'.cells.length ≤ cur'.size) (hv : NewCells D w φ s r cur cur' r'.cells) :
    SR D w' ⟨φ.l.set t (some g'), fun b => φ.O b ∨ b = g'⟩ env { s with rows := s.rows.set t r', ctr := s.ctr + 1 } ∧ Mv w φ s.rows s.ctr w' ⟨φ.l.set t (some g'), fun b => φ.O b ∨ b = g'⟩ (s.rows.set t r') (s.ctr + 1) := by
  have ht : t < s.rows.length := (List.getElem?_eq_some_iff.1 hr).1
  have htφ : t < φ.l.length := (List.getElem?_eq_some_iff.1 hob).1
  have hobO : ∀ b, ob = some b → φ.O b := fun b e => h.occ b (List.mem_of_getElem? (by rw [hob, e]))
  have hne : ∀ b, b < w.heap.size → ¬ φ.O b → b ≠ g' := by
    intro b hb hF e
    subst e
    rcases hg' with e | e
    · exact hF (hobO b e)
    · omega
  have mφ : ∀ b, some b ∈ φ.l.set t (some g') → some b ∈ φ.l ∨ b = g' := by
    intro b hb
    rcases List.mem_or_eq_of_mem_set hb with hb | hb
    · exact .inl hb
    · cases hb; exact .inr rfl
  have m : Mv w φ s.rows s.ctr w' ⟨φ.l.set t (some g'), fun b => φ.O b ∨ b = g'⟩ (s.rows.set t r') (s.ctr + 1) := by
    refine ⟨hz, by omega, fun b hb hF => ⟨fun hm => ?_, ho b hb (fun e => hF (hobO b e.symm))⟩, fun t' r'' hr'' hlt => ?_⟩
    · rcases hm with h1 | h1
      · exact hF h1
      · exact hne b hb hF h1
    · rw [List.getElem?_set] at hr''
      split at hr''
      · rename_i e
        subst e
        try rw [if_pos ht] at hr''
        cases hr''
        omega
      · rename_i e
        refine ⟨r'', hr'', rfl, rfl, rfl, by simp only; rw [List.getElem?_set, if_neg e], fun g cur hg hc => ⟨cur, ?_, rfl⟩⟩
        rw [ho g (lt_of_heap hc) (fun e' => e (h.inj t t' g (by rw [hob, ← e']) hg))]
        exact hc
  obtain ⟨ω, hn⟩ := h.nest
  have hnb : ∀ t' j p b, ω t' j p b → w'.heap[b]? = w.heap[b]? := fun t' j p b hb => ho b (h.lt b (hn.ap.oc t' j p b hb)) (fun e => hn.ap.nf t' j p b hb (List.mem_of_getElem? (by rw [hob, ← e])))
  have hold : ∀ (j : Nat) (u : AV), r.cells[j]? = some u → ∃ v, cur[j]? = some v ∧ v.oneCell' = true ∧ CV D w φ s.rows s.ctr v u (ω t j) := fun j u hu => by
    have h1 := hn.row t r ob hr hob
    cases ob with
    | none => rw [h1.1] at hu; simp at hu
    | some g =>
      obtain ⟨cur0, c1, c2, c3, c4⟩ := h1
      rw [hcur g rfl] at c1; cases c1
      exact c4 j u hu
  obtain ⟨F', f1, f2, f3⟩ := foot_new (s' := { s with rows := s.rows.set t r', ctr := s.ctr + 1 }) m hold (hnb t) hv
  refine ⟨h.mv m rfl (by simp [h.len]) (by simp only [List.length_set]; exact h.lo) (fun a b g ha hb => ?_) (fun g hg => ?_) (fun g hg => ?_) (fun r'' hr'' => ?_)
    ⟨fun t' => if t' = t then F' else ω t', fun t' r'' ob' hr'' hob' => ?_, fun t' ht' j => ?_, hn.ap.less f1 (fun b hb => ?_) (fun b hb => .inl hb)⟩ (fun t' r'' hr'' hz' => ?_) (fun g hg => ?_), m⟩
  · simp only at ha hb
    rw [List.getElem?_set] at ha hb
    split at ha
    · rename_i e
      subst e
      try rw [if_pos htφ] at ha
      cases ha
      split at hb
      · rename_i e; exact e
      · rename_i e
        exfalso
        rcases hg' with e1 | e1
        · exact e (h.inj t b g' (by rw [hob, e1]) hb)
        · have := h.lt g' (h.occ g' (List.mem_of_getElem? hb)); omega
    · rename_i ea
      split at hb
      · rename_i e
        subst e
        try rw [if_pos htφ] at hb
        cases hb
        exfalso
        rcases hg' with e1 | e1
        · exact ea (h.inj t a g' (by rw [hob, e1]) ha)
        · have := h.lt g' (h.occ g' (List.mem_of_getElem? ha)); omega
      · exact h.inj a b g ha hb
  · rcases hg with h1 | h1
    · exact Nat.lt_of_lt_of_le (h.lt g h1) hz
    · subst h1; exact hlt'
  · rcases mφ g hg with h1 | h1
    · exact .inl (h.occ g h1)
    · exact .inr h1
  · simp only at hr'' ⊢
    rcases List.mem_or_eq_of_mem_set hr'' with h1 | h1
    · have := h.ver r'' h1; omega
    · subst h1; omega
  · simp only at hr'' hob'
    rw [List.getElem?_set] at hr'' hob'
    split at hr''
    · rename_i e
      subst e
      try rw [if_pos ht] at hr''
      try rw [if_pos rfl] at hob'
      try rw [if_pos htφ] at hob'
      cases hr''; cases hob'
      rw [if_pos rfl]
      exact ⟨cur', hc', hl, f2, f3⟩
    · rename_i e
      rw [if_neg e] at hob'
      rw [if_neg (fun e' => e e'.symm)]
      exact (hn.row t' r'' ob' hr'' hob').mv m (fun g hg => ho g (h.lt g (h.occ g (List.mem_of_getElem? (by rw [hob', hg])))) (fun e' => e (h.inj t t' g (by rw [hob, ← e']) (by rw [hob', hg])))) (hnb t')
  · have ht0 : s.rows[t']? = none := by
      rw [List.getElem?_eq_none_iff] at ht' ⊢
      simpa using ht'
    rw [if_neg (fun e => by rw [e, hr] at ht0; cases ht0)]
    exact hn.out t' ht0 j
  · rcases mφ b hb with h1 | h1
    · exact .inl h1
    · rcases hg' with e1 | e1
      · exact .inl (by rw [h1]; exact List.mem_of_getElem? (by rw [hob, e1]))
      · exact .inr (fun hO => by have := h.lt b hO; omega)
  · simp only at hr'' ⊢
    rw [List.getElem?_set] at hr'' ⊢
    split at hr''
    · rename_i e
      subst e
      try rw [if_pos ht] at hr''
      cases hr''
      exact absurd hz' hz0
    · rename_i e
      rw [if_neg e]
      exact h.sz0 t' r'' hr'' hz'
  · rcases hg with h1 | h1
    · exact h.dis g h1
    · subst h1
      rcases hg' with e1 | e1
      · exact h.dis g (hobO g e1)
      · intro hd; have := h.dlt g hd; omega

end
end Go.Am
