import Derived.Test.YtjmdhfjemaoebaaGreatM01x2
import Derived.Laws.Tables
namespace Go.Am
open Go.RowKit
variable {D : Nat → Prop}
def spliceA (cur : Array Value) : Nat → List Value → Array Value
  | _, [] => cur
  | o, v :: r => spliceA (cur.setIfInBounds o v) (o + 1) r
theorem spliceA_size (vs : List Value) : ∀ (cur : Array Value) (o : Nat), (spliceA cur o vs).size = cur.size := by
  induction vs with
  | nil => intros; rfl
  | cons v r ih => intro cur o; rw [spliceA, ih]; simp
theorem spliceA_get (vs : List Value) : ∀ (cur : Array Value) (o j : Nat), o + vs.length ≤ cur.size → (spliceA cur o vs)[j]? = if o ≤ j ∧ j < o + vs.length then vs[j - o]? else cur[j]? := by
  induction vs with
  | nil => intro cur o j _; simp [spliceA]; omega
  | cons v r ih =>
    intro cur o j h
    simp only [List.length_cons] at h ⊢
    rw [spliceA, ih _ _ _ (by simp; omega)]
    by_cases h1 : o + 1 ≤ j ∧ j < o + 1 + r.length
    · rw [if_pos h1, if_pos (by omega)]
      have : j - o = (j - (o + 1)) + 1 := by omega
      rw [this]; simp
    · rw [if_neg h1]
      by_cases h2 : j = o
      · subst h2
        rw [if_pos (by omega)]
        simp [Array.getElem?_setIfInBounds]
        omega
      · rw [if_neg (by omega), Array.getElem?_setIfInBounds, if_neg (by omega)]
theorem heap_setCells (vs : List Value) : ∀ (w : World) (g o : Nat) (cur : Array Value) (t : TypeId) (fr : Nat × Nat), w.heap[g]? = some (.cells cur t fr) →
    (w.setCells g o vs).heap[g]? = some (.cells (spliceA cur o vs) t fr) ∧ (w.setCells g o vs).heap.size = w.heap.size ∧ (∀ b, b ≠ g → (w.setCells g o vs).heap[b]? = w.heap[b]?) ∧
    (w.setCells g o vs).os = w.os ∧ (w.setCells g o vs).tape = w.tape ∧ (w.setCells g o vs).output = w.output := by
  induction vs with
  | nil => intro w g o cur t fr h; exact ⟨h, rfl, fun _ _ => rfl, rfl, rfl, rfl⟩
  | cons v r ih =>
    intro w g o cur t fr h
    have h1 : (w.setCell ⟨g, o, none⟩ v).heap[g]? = some (.cells (cur.setIfInBounds o v) t fr) := by
      simp [World.setCell, Array.getElem?_modify, h]
    obtain ⟨a1, a2, a3, a4, a5, a6⟩ := ih (w.setCell ⟨g, o, none⟩ v) g (o + 1) _ t fr h1
    refine ⟨a1, ?_, fun b hb => ?_, a4, a5, a6⟩
    · simp only [World.setCells]; rw [a2]; simp [World.setCell]
    · simp only [World.setCells]; rw [a3 b hb]; exact Below.heap_setCell w _ v b hb
section
variable {P : Program} {w : World} {φ : Places} {s : St} {env : List Value}
def St.setRow (s : St) (t : Nat) (r : Row) : St := { s with rows := s.rows.set t r }
def NewCells (D : Nat → Prop) (w : World) (φ : Places) (s : St) (r : Row) (cur cur' : Array Value) (us : List AV) : Prop :=
  ∀ (j : Nat) (u : AV), us[j]? = some u → ∃ v, cur'[j]? = some v ∧ v.oneCell' = true ∧ (VR D w φ s.rows s.ctr v u ∨ (r.cells[j]? = some u ∧ cur[j]? = some v))
theorem foot_new {D : Nat → Prop} {w w' : World} {φ φ' : Places} {s s' : St} {r : Row} {cur cur' : Array Value} {us : List AV} {F : Nat → Foot} (m : Mv w φ s.rows s.ctr w' φ' s'.rows s'.ctr)
    (hold : ∀ (j : Nat) (u : AV), r.cells[j]? = some u → ∃ v, cur[j]? = some v ∧ v.oneCell' = true ∧ CV D w φ s.rows s.ctr v u (F j)) (hb : ∀ (j : Nat) (p : List Nat) (b : Nat), F j p b → w'.heap[b]? = w.heap[b]?) (hv : NewCells D w φ s r cur cur' us) :
    ∃ F' : Nat → Foot, (∀ j, F' j = F j ∨ F' j = noFoot) ∧ (∀ j : Nat, us[j]? = none → F' j = noFoot) ∧ ∀ (j : Nat) (u : AV), us[j]? = some u → ∃ v, cur'[j]? = some v ∧ v.oneCell' = true ∧ CV D w' φ' s'.rows s'.ctr v u (F' j) := by
  have each : ∀ j : Nat, ∃ G : Foot, (G = F j ∨ G = noFoot) ∧ (us[j]? = none → G = noFoot) ∧ ∀ u, us[j]? = some u → ∃ v, cur'[j]? = some v ∧ v.oneCell' = true ∧ CV D w' φ' s'.rows s'.ctr v u G := fun j => by
    cases hu : us[j]? with
    | none => exact ⟨noFoot, .inr rfl, fun _ => rfl, fun u h => by cases h⟩
    | some u =>
      obtain ⟨v, h1, h2, h3 | ⟨h3, h4⟩⟩ := hv j u hu
      · exact ⟨noFoot, .inr rfl, fun h => (by cases h), fun u' h => by cases h; exact ⟨v, h1, h2, .vr _ _ (h3.mv m)⟩⟩
      · obtain ⟨v', a1, a2, a3⟩ := hold j u h3
        rw [h4] at a1; cases a1
        exact ⟨F j, .inl rfl, fun h => (by cases h), fun u' h => by cases h; exact ⟨v, h1, h2, a3.mv m (hb j)⟩⟩
  exact ⟨fun j => Classical.choose (each j), fun j => (Classical.choose_spec (each j)).1, fun j => (Classical.choose_spec (each j)).2.1, fun j u hu => (Classical.choose_spec (each j)).2.2 u hu⟩
theorem Apart.less {φ φ' : Places} {ω : Nat → Nat → Foot} (h : Apart φ ω) {t : Nat} {F' : Nat → Foot} (hF : ∀ j, F' j = ω t j ∨ F' j = noFoot) (hl : ∀ b, some b ∈ φ'.l → some b ∈ φ.l ∨ ¬ φ.O b) (hO : ∀ b, φ.O b → φ'.O b) : Apart φ' (fun t' => if t' = t then F' else ω t') := by
  have key : ∀ t' j p b, (if t' = t then F' else ω t') j p b → ω t' j p b := fun t' j p b hb => by
    split at hb
    · rename_i e
      subst e
      rcases hF j with e | e
      · rw [e] at hb; exact hb
      · rw [e] at hb; exact hb.elim
    · exact hb
  refine ⟨fun t1 t2 j j' p p' b h1 h2 => h.uq _ _ _ _ _ _ b (key _ _ _ _ h1) (key _ _ _ _ h2), fun t1 j p b h1 hm => ?_, fun t1 j p b h1 => hO b (h.oc _ _ _ _ (key _ _ _ _ h1))⟩
  rcases hl b hm with h2 | h2
  · exact h.nf _ _ _ _ (key _ _ _ _ h1) h2
  · exact h2 (h.oc _ _ _ _ (key _ _ _ _ h1))
theorem SR.setRow (h : SR D w φ env s) {t g : Nat} {r : Row} {cur cur' : Array Value} {us : List AV} {w' : World} (hr : s.rows[t]? = some r) (hg : φ.l[t]? = some (some g)) (hc : w.heap[g]? = some (.cells cur r.ety (0, 0)))
    (hc' : w'.heap[g]? = some (.cells cur' r.ety (0, 0))) (hs : cur'.size = cur.size) (hz : w'.heap.size = w.heap.size) (ho : ∀ b, b ≠ g → w'.heap[b]? = w.heap[b]?)
    (hl : us.length ≤ cur'.size) (hv : NewCells D w φ s r cur cur' us) :
    SR D w' φ env (s.setRow t { r with cells := us }) ∧ Mv w φ s.rows s.ctr w' φ (s.setRow t { r with cells := us }).rows s.ctr := by
  have ht : t < s.rows.length := (List.getElem?_eq_some_iff.1 hr).1
  have hmem : some g ∈ φ.l := List.mem_of_getElem? hg
  have m : Mv w φ s.rows s.ctr w' φ (s.setRow t { r with cells := us }).rows s.ctr := by
    refine ⟨Nat.le_of_eq hz.symm, Nat.le_refl _, fun b hb hF => ⟨hF, ho b (fun e => hF (by rw [e]; exact h.occ g hmem))⟩, fun t' r' hr' hlt => ?_⟩
    simp only [St.setRow] at hr'
    rw [List.getElem?_set] at hr'
    split at hr'
    · rename_i e
      subst e
      try rw [if_pos ht] at hr'
      cases hr'
      refine ⟨r, hr, rfl, rfl, rfl, rfl, fun g' cur0 hg' hc0 => ?_⟩
      rw [hg] at hg'; cases hg'
      rw [hc] at hc0; cases hc0
      exact ⟨cur', hc', hs⟩
    · rename_i e
      refine ⟨r', hr', rfl, rfl, rfl, rfl, fun g' cur0 hg' hc0 => ⟨cur0, ?_, rfl⟩⟩
      rw [ho g' (fun e' => e (h.inj t t' g hg (by rw [← e']; exact hg')))]
      exact hc0
  obtain ⟨ω, hn⟩ := h.nest
  have hne : ∀ t' j p b, ω t' j p b → w'.heap[b]? = w.heap[b]? := fun t' j p b hb => ho b (fun e => hn.ap.nf t' j p b hb (by rw [e]; exact hmem))
  obtain ⟨cur0, c1, c2, c3, c4⟩ := hn.row t r (some g) hr hg
  rw [hc] at c1; cases c1
  obtain ⟨F', f1, f2, f3⟩ := foot_new (s' := s.setRow t { r with cells := us }) m c4 (hne t) hv
  refine ⟨h.mv m rfl (by simp [St.setRow, h.len]) (by simp only [St.setRow, List.length_set]; exact h.lo) h.inj (fun g' hg' => by rw [hz]; exact h.lt g' hg') h.occ (fun r' hr' => ?_)
    ⟨fun t' => if t' = t then F' else ω t', fun t' r' ob hr' hob => ?_, fun t' ht' j => ?_, hn.ap.less f1 (fun b hb => .inl hb) (fun b hb => hb)⟩ (fun t' r' hr' hz' => ?_) h.dis, m⟩
  · simp only [St.setRow] at hr'
    rcases List.mem_or_eq_of_mem_set hr' with hr' | rfl
    · exact h.ver r' hr'
    · exact h.ver r (List.mem_of_getElem? hr)
  · simp only [St.setRow] at hr'
    rw [List.getElem?_set] at hr'
    split at hr'
    · rename_i e
      subst e
      try rw [if_pos ht] at hr'
      cases hr'
      rw [hg] at hob; cases hob
      rw [if_pos rfl]
      exact ⟨cur', hc', hl, f2, f3⟩
    · rename_i e
      rw [if_neg (fun e' => e e'.symm)]
      refine (hn.row t' r' ob hr' hob).mv m (fun g' hg' => ho g' (fun e' => e (h.inj t t' g hg ?_))) (hne t')
      rw [hob, hg', e']
  · have ht0 : s.rows[t']? = none := by
      rw [List.getElem?_eq_none_iff] at ht' ⊢
      simpa [St.setRow] using ht'
    rw [if_neg (fun e => by rw [e, hr] at ht0; cases ht0)]
    exact hn.out t' ht0 j
  · simp only [St.setRow] at hr'
    rw [List.getElem?_set] at hr'
    split at hr'
    · rename_i e
      subst e
      try rw [if_pos ht] at hr'
      cases hr'
      exact h.sz0 t r hr hz'
    · exact h.sz0 t' r' hr' hz'
theorem SR.reRow (h : SR D w φ env s) {t : Nat} {r r' : Row} {ob : Option Nat} {g' : Nat} {cur cur' : Array Value} {w' : World} (hr : s.rows[t]? = some r) (hob : φ.l[t]? = some ob) (hr' : r'.ver = s.ctr) (hz0 : r'.size ≠ 0)
    (hcur : ∀ g, ob = some g → w.heap[g]? = some (.cells cur r.ety (0, 0)))
    (hg' : ob = some g' ∨ w.heap.size ≤ g') (hlt' : g' < w'.heap.size) (hc' : w'.heap[g']? = some (.cells cur' r'.ety (0, 0))) (hz : w.heap.size ≤ w'.heap.size) (ho : ∀ b, b < w.heap.size → some b ≠ ob → w'.heap[b]? = w.heap[b]?)
    (hl : r'.cells.length ≤ cur'.size) (hv : NewCells D w φ s r cur cur' r'.cells) :
    SR D w' ⟨φ.l.set t (some g'), fun b => φ.O b ∨ b = g'⟩ env { s with rows := s.rows.set t r', ctr := s.ctr + 1 } ∧ Mv w φ s.rows s.ctr w' ⟨φ.l.set t (some g'), fun b => φ.O b ∨ b = g'⟩ (s.rows.set t r') (s.ctr + 1) := by
  have ht : t < s.rows.length := (List.getElem?_eq_some_iff.1 hr).1
  have htφ : t < φ.l.length := (List.getElem?_eq_some_iff.1 hob).1
  have hobO : ∀ b, ob = some b → φ.O b := fun b e => h.occ b (List.mem_of_getElem? (by rw [hob, e]))
  have hne : ∀ b, b < w.heap.size → ¬ φ.O b → b ≠ g' := by
    intro b hb hF e
    subst e
    rcases hg' with e | e
    · exact hF (hobO b e)
    · omega
  have mφ : ∀ b, some b ∈ φ.l.set t (some g') → some b ∈ φ.l ∨ b = g' := by
    intro b hb
    rcases List.mem_or_eq_of_mem_set hb with hb | hb
    · exact .inl hb
    · cases hb; exact .inr rfl
  have m : Mv w φ s.rows s.ctr w' ⟨φ.l.set t (some g'), fun b => φ.O b ∨ b = g'⟩ (s.rows.set t r') (s.ctr + 1) := by
    refine ⟨hz, by omega, fun b hb hF => ⟨fun hm => ?_, ho b hb (fun e => hF (hobO b e.symm))⟩, fun t' r'' hr'' hlt => ?_⟩
    · rcases hm with h1 | h1
      · exact hF h1
      · exact hne b hb hF h1
    · rw [List.getElem?_set] at hr''
      split at hr''
      · rename_i e
        subst e
        try rw [if_pos ht] at hr''
        cases hr''
        omega
      · rename_i e
        refine ⟨r'', hr'', rfl, rfl, rfl, by simp only; rw [List.getElem?_set, if_neg e], fun g cur hg hc => ⟨cur, ?_, rfl⟩⟩
        rw [ho g (lt_of_heap hc) (fun e' => e (h.inj t t' g (by rw [hob, ← e']) hg))]
        exact hc
  obtain ⟨ω, hn⟩ := h.nest
  have hnb : ∀ t' j p b, ω t' j p b → w'.heap[b]? = w.heap[b]? := fun t' j p b hb => ho b (h.lt b (hn.ap.oc t' j p b hb)) (fun e => hn.ap.nf t' j p b hb (List.mem_of_getElem? (by rw [hob, ← e])))
  have hold : ∀ (j : Nat) (u : AV), r.cells[j]? = some u → ∃ v, cur[j]? = some v ∧ v.oneCell' = true ∧ CV D w φ s.rows s.ctr v u (ω t j) := fun j u hu => by
    have h1 := hn.row t r ob hr hob
    cases ob with
    | none => rw [h1.1] at hu; simp at hu
    | some g =>
      obtain ⟨cur0, c1, c2, c3, c4⟩ := h1
      rw [hcur g rfl] at c1; cases c1
      exact c4 j u hu
  obtain ⟨F', f1, f2, f3⟩ := foot_new (s' := { s with rows := s.rows.set t r', ctr := s.ctr + 1 }) m hold (hnb t) hv
  refine ⟨h.mv m rfl (by simp [h.len]) (by simp only [List.length_set]; exact h.lo) (fun a b g ha hb => ?_) (fun g hg => ?_) (fun g hg => ?_) (fun r'' hr'' => ?_)
    ⟨fun t' => if t' = t then F' else ω t', fun t' r'' ob' hr'' hob' => ?_, fun t' ht' j => ?_, hn.ap.less f1 (fun b hb => ?_) (fun b hb => .inl hb)⟩ (fun t' r'' hr'' hz' => ?_) (fun g hg => ?_), m⟩
  · simp only at ha hb
    rw [List.getElem?_set] at ha hb
    split at ha
    · rename_i e
      subst e
      try rw [if_pos htφ] at ha
      cases ha
      split at hb
      · rename_i e; exact e
      · rename_i e
        exfalso
        rcases hg' with e1 | e1
        · exact e (h.inj t b g' (by rw [hob, e1]) hb)
        · have := h.lt g' (h.occ g' (List.mem_of_getElem? hb)); omega
    · rename_i ea
      split at hb
      · rename_i e
        subst e
        try rw [if_pos htφ] at hb
        cases hb
        exfalso
        rcases hg' with e1 | e1
        · exact ea (h.inj t a g' (by rw [hob, e1]) ha)
        · have := h.lt g' (h.occ g' (List.mem_of_getElem? ha)); omega
      · exact h.inj a b g ha hb
  · rcases hg with h1 | h1
    · exact Nat.lt_of_lt_of_le (h.lt g h1) hz
    · subst h1; exact hlt'
  · rcases mφ g hg with h1 | h1
    · exact .inl (h.occ g h1)
    · exact .inr h1
  · simp only at hr'' ⊢
    rcases List.mem_or_eq_of_mem_set hr'' with h1 | h1
    · have := h.ver r'' h1; omega
    · subst h1; omega
  · simp only at hr'' hob'
    rw [List.getElem?_set] at hr'' hob'
    split at hr''
    · rename_i e
      subst e
      try rw [if_pos ht] at hr''
      try rw [if_pos rfl] at hob'
      try rw [if_pos htφ] at hob'
      cases hr''; cases hob'
      rw [if_pos rfl]
      exact ⟨cur', hc', hl, f2, f3⟩
    · rename_i e
      rw [if_neg e] at hob'
      rw [if_neg (fun e' => e e'.symm)]
      exact (hn.row t' r'' ob' hr'' hob').mv m (fun g hg => ho g (h.lt g (h.occ g (List.mem_of_getElem? (by rw [hob', hg])))) (fun e' => e (h.inj t t' g (by rw [hob, ← e']) (by rw [hob', hg])))) (hnb t')
  · have ht0 : s.rows[t']? = none := by
      rw [List.getElem?_eq_none_iff] at ht' ⊢
      simpa using ht'
    rw [if_neg (fun e => by rw [e, hr] at ht0; cases ht0)]
    exact hn.out t' ht0 j
  · rcases mφ b hb with h1 | h1
    · exact .inl h1
    · rcases hg' with e1 | e1
      · exact .inl (by rw [h1]; exact List.mem_of_getElem? (by rw [hob, e1]))
      · exact .inr (fun hO => by have := h.lt b hO; omega)
  · simp only at hr'' ⊢
    rw [List.getElem?_set] at hr'' ⊢
    split at hr''
    · rename_i e
      subst e
      try rw [if_pos ht] at hr''
      cases hr''
      exact absurd hz' hz0
    · rename_i e
      rw [if_neg e]
      exact h.sz0 t' r'' hr'' hz'
  · rcases hg with h1 | h1
    · exact h.dis g h1
    · subst h1
      rcases hg' with e1 | e1
      · exact h.dis g (hobO g e1)
      · intro hd; have := h.dlt g hd; omega
end
end Go.Am
namespace Go.Am
open Go.RowKit
variable {D : Nat → Prop}
def Does (D : Nat → Prop) (low : Nat) (P : Program) (w : World) (φ : Places) (env : List Value) (K : Nat → Prop) (sem : Sem Value) (k : AV → St → Prop) : Prop :=
  ∃ v u w' φ' s', sem.run P w = .ok v w' ∧ SR D w' φ' env s' ∧ VR D w' φ' s'.rows s'.ctr v u ∧ Keeps K w w' ∧ (∀ g, φ'.O g → φ.O g ∨ w.heap.size ≤ g) ∧ Lows low w φ w' φ' ∧ s'.low = low ∧ k u s'
def DoesU (D : Nat → Prop) (low : Nat) (P : Program) (w : World) (φ : Places) (env : List Value) (K : Nat → Prop) (sem : Sem Unit) (k : St → Prop) : Prop :=
  ∃ w' φ' s', sem.run P w = .ok () w' ∧ SR D w' φ' env s' ∧ Keeps K w w' ∧ (∀ g, φ'.O g → φ.O g ∨ w.heap.size ≤ g) ∧ Lows low w φ w' φ' ∧ s'.low = low ∧ k s'
def aSet (cells : List AV) (off : Nat) (us : List AV) (k : List AV → Prop) : Prop := k (cells.take off ++ (us ++ cells.drop (off + us.length)))
def aStore (P : Program) (s : St) (t : TypeId) (p v : AV) (k : St → Prop) : Prop :=
  match p with
  | .ptr τ ver off => aRow s τ ver fun r => aSz P t fun z => v.known = true ∧ v.cells.length = z ∧ off + z ≤ r.cells.length ∧
      aSet r.cells off v.cells fun cells => k (s.setRow τ (r.putC cells))
  | _ => False
section
variable {P : Program} {w : World} {φ : Places} {s : St} {env : List Value} {K : Nat → Prop}
theorem splice_get (xs ys : List AV) (off z j : Nat) (hy : ys.length = z) (h : off + z ≤ xs.length) : (xs.take off ++ (ys ++ xs.drop (off + z)))[j]? = if off ≤ j ∧ j < off + z then ys[j - off]? else xs[j]? := by
  subst hy
  have hl : (xs.take off).length = off := by simp; omega
  by_cases h1 : j < off
  · rw [List.getElem?_append_left (by omega), if_neg (by omega), List.getElem?_take, if_pos h1]
  · rw [List.getElem?_append_right (by omega), hl]
    by_cases h2 : j < off + ys.length
    · rw [if_pos (by omega), List.getElem?_append_left (by omega)]
    · rw [if_neg (by omega), List.getElem?_append_right (by omega), List.getElem?_drop]
      congr 1; omega
theorem SR.cur (h : SR D w φ env s) {τ g : Nat} {r : Row} (hr : s.rows[τ]? = some r) (hg : φ.l[τ]? = some (some g)) : ∃ cur : Array Value, w.heap[g]? = some (.cells cur r.ety (0, 0)) ∧ r.cells.length ≤ cur.size ∧
    ∀ (j : Nat) (u : AV), r.cells[j]? = some u → ∃ v, cur[j]? = some v ∧ v.oneCell' = true ∧ (u.isOwn = false → VR D w φ s.rows s.ctr v u) := by
  obtain ⟨ω, hn⟩ := h.nest
  obtain ⟨cur, h1, h2, _, h3⟩ := hn.row τ r (some g) hr hg
  exact ⟨cur, h1, h2, fun j u hu => by
    obtain ⟨v, a1, a2, a3⟩ := h3 j u hu
    exact ⟨v, a1, a2, fun ho => (a3.vr_of ho).1⟩⟩
theorem write_row (h : SR D w φ env s) (hK : ∀ g, φ.O g → ¬ K g) {τ g off : Nat} {r : Row} {vs : List Value} {us : List AV} (hr : s.rows[τ]? = some r) (hg : φ.l[τ]? = some (some g)) (hl : vs.length = us.length) (hfit : off + us.length ≤ r.cells.length)
    (h1 : ∀ v ∈ vs, v.oneCell' = true) (hv : ∀ (j : Nat) (x : Value) (y : AV), vs[j]? = some x → us[j]? = some y → VR D w φ s.rows s.ctr x y) :
    (storeCells ⟨g, off, none⟩ vs 0).run P w = .ok () (w.setCells g off vs) ∧ SR D (w.setCells g off vs) φ env (s.setRow τ { r with cells := r.cells.take off ++ (us ++ r.cells.drop (off + us.length)) }) ∧ Keeps K w (w.setCells g off vs) ∧
    Mv w φ s.rows s.ctr (w.setCells g off vs) φ (s.setRow τ { r with cells := r.cells.take off ++ (us ++ r.cells.drop (off + us.length)) }).rows s.ctr ∧ Lows s.low w φ (w.setCells g off vs) φ := by
  obtain ⟨cur, c1, c2, c3⟩ := h.cur hr hg
  obtain ⟨b1, b2, b3, b4, b5, b6⟩ := heap_setCells vs w g off cur r.ety (0, 0) c1
  have hlen : (r.cells.take off ++ (us ++ r.cells.drop (off + us.length))).length = r.cells.length := by simp; omega
  obtain ⟨d1, d2⟩ := h.setRow (w' := w.setCells g off vs) (us := r.cells.take off ++ (us ++ r.cells.drop (off + us.length))) hr hg c1 b1 (spliceA_size _ _ _) b2 b3 (by rw [hlen, spliceA_size]; exact c2) (fun j u hu => by
      rw [splice_get _ _ _ _ _ rfl hfit] at hu
      rw [spliceA_get _ _ _ _ (by omega)]
      split at hu
      · rename_i hj
        rw [if_pos (by omega)]
        have hx : vs[j - off]? = some (vs[j - off]'(by omega)) := List.getElem?_eq_getElem _
        exact ⟨_, hx, h1 _ (List.getElem_mem _), .inl (hv _ _ _ hx hu)⟩
      · rename_i hj
        rw [if_neg (by omega)]
        obtain ⟨v, e1, e2, _⟩ := c3 j u hu
        exact ⟨v, e1, e2, .inr ⟨hu, e1⟩⟩)
  refine ⟨?_, d1, ⟨b4, b5, b6, Nat.le_of_eq b2.symm, fun b hb => b3 b (fun e => hK g (h.occ g (List.mem_of_getElem? hg)) (by rw [← e]; exact hb))⟩, d2, ⟨fun _ _ => rfl, fun i g' cur0 t hi hg' hc0 => ?_⟩⟩
  rotate_left
  · by_cases e : g' = g
    · subst e
      rw [c1] at hc0; cases hc0
      exact ⟨_, b1, spliceA_size _ _ _⟩
    · exact ⟨cur0, by rw [b3 g' e]; exact hc0, rfl⟩
  have := run_storeCells_cells (P := P) g off vs 0 w (fun j hj => by
      have : w.cell? ⟨g, off + 0 + j, none⟩ = cur[off + j]? := by simp [World.cell?, c1]
      rw [this, Array.getElem?_eq_getElem (by omega)]; rfl) (fun j hj => by simp [World.frozen?, c1]) h1
  simpa using this
theorem aStore_ok (h : SR D w φ env s) (hK : ∀ g, φ.O g → ¬ K g) {t : TypeId} {p v : AV} {pv vv : Value} {k : St → Prop} (hp : VR D w φ s.rows s.ctr pv p) (hv : VR D w φ s.rows s.ctr vv v) (hk : aStore P s t p v k) :
    DoesU D s.low P w φ env K (Instr.storeAt t pv vv) k := by
  unfold aStore at hk
  split at hk
  · rename_i τ ver off
    obtain ⟨r, hr, hver, hk⟩ := aRow_out hk
    obtain ⟨z, hz, _, hkn, hlen, hfit, hk⟩ := aSz_out hk
    cases hp with
    | ptr _ _ _ _ hlt h1 hx =>
      obtain ⟨g, hg, rfl⟩ := hx r hr hver
      obtain ⟨e1, e2⟩ := hv.cells hkn
      obtain ⟨a1, a2, a3, _, a5⟩ := write_row (P := P) (off := off) h hK (vs := vv.cells.toList) (us := v.cells) hr hg (by simpa using e1) (by omega) (fun x hx => by
          obtain ⟨j, hj⟩ := List.getElem?_of_mem hx
          have hjl : j < v.cells.length := by rw [← e1]; have := (List.getElem?_eq_some_iff.1 hj).1; simpa using this
          exact (e2 j x _ (by simpa using hj) (List.getElem?_eq_getElem hjl)).1) (fun j x y hx hy => (e2 j x y (by simpa using hx) hy).2)
      refine ⟨_, φ, _, ?_, a2, a3, fun g hg => .inl hg, a5, rfl, hk⟩
      have hzz : vv.cells.size = z := by omega
      simp only [Instr.storeAt, Instr.sureAddr, storeVar, Sem.run_bind, Sem.run_pure, Result.andThen_ok, run_tsz hz, hzz, ne_eq, not_true_eq_false, if_false]
      exact a1
  · exact hk.elim
theorem Keeps.alloc (o : Obj) (hK : ∀ b, K b → b < w.heap.size) : Keeps K w (w.alloc o) := ⟨rfl, rfl, rfl, by simp, fun b hb => Below.heap_alloc w o b (hK b hb)⟩
def aBox (P : Program) (s : St) (t : TypeId) (v : AV) (k : AV → St → Prop) : Prop :=
  v.known = true ∧ v.cells ≠ [] ∧ aTys P 3 t fun ts => forceL (s.ownAll ts v.cells).1 fun cs => forceN v.cells.length fun n => k (.ptr (s.ownAll ts v.cells).2.rows.length (s.ownAll ts v.cells).2.ctr 0) ((s.ownAll ts v.cells).2.push ⟨(s.ownAll ts v.cells).2.ctr, t, n, cs⟩)
theorem aBox_ok (h : SR D w φ env s) (hK : ∀ b, K b → b < w.heap.size) {t : TypeId} {v : AV} {vv : Value} {k : AV → St → Prop} (hv : VR D w φ s.rows s.ctr vv v) (hk : aBox P s t v k) : Does D s.low P w φ env K (Instr.box t vv) k := by
  obtain ⟨hkn, hne, hk⟩ := hk
  obtain ⟨ts, hk⟩ := aTys_out _ _ _ hk
  rw [forceL_eq, forceN_eq] at hk
  obtain ⟨e1, e2⟩ := hv.cells hkn
  obtain ⟨φ1, a1, a2, a3, a4, a5, a6, a7⟩ := SR.ownAll ts v.cells h vv.cells.toList (by simpa using e1) (fun j x y hx hy => (e2 j x y (by simpa using hx) hy).2)
  have hl0 : v.cells.length ≠ 0 := fun e => hne (List.eq_nil_of_length_eq_zero e)
  obtain ⟨b1, b2, b3⟩ := a1.newBlock vv.cells (s.ownAll ts v.cells).1 t v.cells.length (by omega) hl0 (fun j x y hx hy => by
      have hj : j < v.cells.length := by rw [← a2]; exact (List.getElem?_eq_some_iff.1 hy).1
      exact ⟨(e2 j x _ hx (List.getElem?_eq_getElem hj)).1, a3 j x y (by simpa using hx) hy⟩)
  refine ⟨.pointer (some ⟨w.heap.size, 0, none⟩), _, w.alloc (.cells vv.cells t), _, _, ?_, b1, ?_, Keeps.alloc _ hK, fun g hg => ?_, Lows.new (fun i hi => ?_) (fun b hb => Below.heap_alloc w _ b hb), a7, hk⟩
  · simp [Instr.box, newVar, newRow]
  · refine .ptr _ _ _ _ (by simp [St.push]) rfl fun r hr hver => ⟨w.heap.size, ?_, rfl⟩
    rw [← a1.len]; simp [Places.snoc]
  · rcases hg with hg | hg
    · exact .inl (a5 g hg)
    · cases hg; exact .inr (Nat.le_refl _)
  · have h1 := h.lo
    have h2 := h.len
    have h3 := a1.lo
    have h4 := a1.len
    rw [snoc_l, List.getElem?_append_left (by omega), a6 i (by omega)]
def zeroCellsA (P : Program) (t : TypeId) : Option (List AV) := ((P.info? t).bind (·.zero)).map fun z => z.cells.toList.map constAV
def zeroOne (P : Program) (t : TypeId) : Bool := (((P.info? t).bind (·.zero)).map fun z => z.cells.all (·.oneCell')).getD false
theorem zero_run {t : TypeId} {cs : List AV} (h : zeroCellsA P t = some cs) : ∃ z : Value, (∀ w, (zeroValue t).run P w = .ok z w) ∧ cs = z.cells.toList.map constAV ∧ ((P.info? t).bind (·.zero)) = some z := by
  unfold zeroCellsA at h
  cases hi : P.info? t with
  | none => simp [hi] at h
  | some i =>
    cases hz : i.zero with
    | none => simp [hi, hz] at h
    | some z =>
      simp [hi, hz] at h
      exact ⟨z, fun w => by simp [zeroValue, typeInfo, hi, hz], h.symm, by simp [hz]⟩
def aAlloc (P : Program) (s : St) (t : TypeId) (k : AV → St → Prop) : Prop :=
  match zeroCellsA P t with
  | none => False
  | some cs => zeroOne P t = true ∧ cs.isEmpty = false ∧ aTys P 3 t fun ts => forceL cs fun cs => forceL (s.ownAll ts cs).1 fun us => forceN cs.length fun n => k (.ptr (s.ownAll ts cs).2.rows.length (s.ownAll ts cs).2.ctr 0) ((s.ownAll ts cs).2.push ⟨(s.ownAll ts cs).2.ctr, t, n, us⟩)
theorem aAlloc_ok (h : SR D w φ env s) (hK : ∀ b, K b → b < w.heap.size) {t : TypeId} {k : AV → St → Prop} (hk : aAlloc P s t k) : Does D s.low P w φ env K (Instr.alloc t true (.tuple #[])) k := by
  unfold aAlloc at hk
  split at hk
  case h_1 => exact hk.elim
  rename_i cs hcs
  obtain ⟨h1, hne, hk⟩ := hk
  obtain ⟨ts, hk⟩ := aTys_out _ _ _ hk
  rw [forceL_eq, forceL_eq, forceN_eq] at hk
  have hne : cs ≠ [] := fun e => by subst e; cases hne
  obtain ⟨z, hz, rfl, hzz⟩ := zero_run hcs
  unfold zeroOne at h1
  rw [hzz] at h1
  simp only [Option.map_some, Option.getD_some, Array.all_eq_true] at h1
  obtain ⟨φ1, a1, a2, a3, a4, a5, a6, a7⟩ := SR.ownAll ts (z.cells.toList.map constAV) h z.cells.toList (by simp) (fun j x y hx hy => by
      simp only [List.getElem?_map, Option.map_eq_some_iff] at hy
      obtain ⟨x', hx', rfl⟩ := hy
      rw [hx] at hx'; cases hx'
      exact constAV_ok _ _ _ _ _)
  have hl0 : (z.cells.toList.map constAV).length ≠ 0 := fun e => hne (List.eq_nil_of_length_eq_zero e)
  obtain ⟨b1, b2, b3⟩ := a1.newBlock z.cells (s.ownAll ts (z.cells.toList.map constAV)).1 t (z.cells.toList.map constAV).length (by rw [a2]; simp) hl0 (fun j x y hx hy =>
    ⟨by have := (Array.getElem?_eq_some_iff.1 hx); obtain ⟨hj, rfl⟩ := this; exact h1 j hj, a3 j x y (by simpa using hx) hy⟩)
  refine ⟨.pointer (some ⟨w.heap.size, 0, none⟩), _, w.alloc (.cells z.cells t), _, _, ?_, b1, ?_, Keeps.alloc _ hK, fun g hg => ?_, Lows.new (fun i hi => ?_) (fun b hb => Below.heap_alloc w _ b hb), a7, hk⟩
  · simp [Instr.alloc, hz, newVar, newRow]
  · refine .ptr _ _ _ _ (by simp [St.push]) rfl fun r hr hver => ⟨w.heap.size, ?_, rfl⟩
    rw [← a1.len]; simp [Places.snoc]
  · rcases hg with hg | hg
    · exact .inl (a5 g hg)
    · cases hg; exact .inr (Nat.le_refl _)
  · have h1 := h.lo
    have h2 := h.len
    have h3 := a1.lo
    have h4 := a1.len
    rw [snoc_l, List.getElem?_append_left (by omega), a6 i (by omega)]
end
end Go.Am
namespace Go.Am
open Go.RowKit
variable {D : Nat → Prop}
def placesA (P : Program) (fields : Array Field) : Option (List (Nat × Nat)) := fields.toList.mapM fun f => (P.info? f.type).map fun i => (f.offset, i.size)
def fillA (place : Nat → Option (Nat × Nat)) : List AV → List (Nat × AV) → Option (List AV)
  | cs, [] => some cs
  | cs, (i, u) :: rest =>
    match place i with
    | some p => if u.known = true ∧ u.cells.length = p.2 ∧ p.1 + p.2 ≤ cs.length then fillA place (cs.take p.1 ++ (u.cells ++ cs.drop (p.1 + p.2))) rest else none
    | none => none
theorem foldl_splice : ∀ (vs : List Value) (off k : Nat) (cs : Array Value), (vs.zipIdx k).foldl (fun cs (x : Value × Nat) => cs.setIfInBounds (off + x.2) x.1) cs = spliceA cs (off + k) vs
  | [], _, _, _ => rfl
  | v :: r, off, k, cs => by
    simp only [List.zipIdx_cons, List.foldl_cons, spliceA]
    rw [foldl_splice r off (k + 1)]
    rfl
theorem fold_splice (vs : Array Value) (off : Nat) (cs : Array Value) : vs.zipIdx.foldl (fun cs (x : Value × Nat) => cs.setIfInBounds (off + x.2) x.1) cs = spliceA cs off vs.toList := by
  rw [← Array.foldl_toList, Array.toList_zipIdx]
  exact foldl_splice _ _ 0 _
section
variable {P : Program} {w : World} {φ : Places} {s : St} {env : List Value} {K : Nat → Prop}
def Pairs (D : Nat → Prop) (w : World) (φ : Places) (s : St) (cs : Array Value) (us : List AV) : Prop :=
  cs.size = us.length ∧ ∀ (j : Nat) (v : Value) (u : AV), cs[j]? = some v → us[j]? = some u → v.oneCell' = true ∧ VR D w φ s.rows s.ctr v u
theorem Pairs.splice {cs : Array Value} {us : List AV} (h : Pairs D w φ s cs us) {v : Value} {u : AV} (hv : VR D w φ s.rows s.ctr v u) (hk : u.known = true) {off : Nat} (hf : off + u.cells.length ≤ us.length) :
    Pairs D w φ s (spliceA cs off v.cells.toList) (us.take off ++ (u.cells ++ us.drop (off + u.cells.length))) := by
  obtain ⟨e1, e2⟩ := hv.cells hk
  refine ⟨by rw [spliceA_size, h.1]; simp; omega, fun j x y hx hy => ?_⟩
  rw [splice_get _ _ _ _ _ rfl hf] at hy
  rw [spliceA_get _ _ _ _ (by rw [h.1]; simp; omega)] at hx
  simp only [Array.length_toList] at hx
  by_cases hj : off ≤ j ∧ j < off + u.cells.length
  · rw [if_pos hj] at hy
    rw [if_pos (by omega)] at hx
    exact e2 _ x y (by simpa using hx) hy
  · rw [if_neg hj] at hy
    rw [if_neg (by omega)] at hx
    exact h.2 j x y hx hy
theorem fill_ok {place : Nat → Option (Nat × Nat)} : ∀ (parts : List (Nat × AV)) (vparts : List (Nat × Value)) (cs : Array Value) (us cells : List AV), Pairs D w φ s cs us →
    vparts.map (·.1) = parts.map (·.1) → (∀ (j : Nat) (x : Nat × Value) (y : Nat × AV), vparts[j]? = some x → parts[j]? = some y → VR D w φ s.rows s.ctr x.2 y.2) → fillA place us parts = some cells →
    ∃ cs', Instr.fill place cs vparts = some cs' ∧ Pairs D w φ s cs' cells
  | [], vparts, cs, us, cells, h, hm, hv, hf => by
    have : vparts = [] := by simpa using hm
    subst this
    simp only [fillA, Option.some.injEq] at hf
    subst hf
    exact ⟨cs, rfl, h⟩
  | (i, u) :: rest, vparts, cs, us, cells, h, hm, hv, hf => by
    cases vparts with
    | nil => simp at hm
    | cons x vrest =>
      obtain ⟨i', v⟩ := x
      simp only [List.map_cons, List.cons.injEq] at hm
      obtain ⟨rfl, hm⟩ := hm
      simp only [fillA] at hf
      split at hf
      · rename_i p hp
        split at hf
        · rename_i hc
          obtain ⟨hk, hl, hle⟩ := hc
          have hv0 := hv 0 (i', v) (i', u) rfl rfl
          obtain ⟨e1, e2⟩ := hv0.cells hk
          obtain ⟨cs', c1, c2⟩ := fill_ok rest vrest _ _ cells (h.splice hv0 hk (off := p.1) (by simp only at hl ⊢; omega)) hm (fun j x y hx hy => hv (j + 1) x y (by simpa using hx) (by simpa using hy)) (by simp only at hl ⊢; rw [hl]; exact hf)
          refine ⟨cs', ?_, c2⟩
          simp only [Instr.fill, hp]
          have h1 : v.cells.size = p.2 := by simp only at e1; omega
          have h2 : ¬ (p.1 + v.cells.size > cs.size) := by rw [h.1]; omega
          rw [if_neg (by simp [h1]; rw [h1] at h2; omega)]
          have := fold_splice v.cells p.1 cs
          rw [← c1]
          congr 1
        · cases hf
      · cases hf
theorem zero_pairs {z : Value} (h1 : z.cells.all (·.oneCell') = true) : Pairs D w φ s z.cells (z.cells.toList.map constAV) := by
  refine ⟨by simp, fun j x y hx hy => ?_⟩
  simp only [List.getElem?_map, Option.map_eq_some_iff] at hy
  obtain ⟨x', hx', rfl⟩ := hy
  have : x' = x := by simp at hx'; rw [hx] at hx'; cases hx'; rfl
  subst this
  rw [Array.all_eq_true] at h1
  obtain ⟨hj, rfl⟩ := Array.getElem?_eq_some_iff.1 hx
  exact ⟨h1 j hj, constAV_ok _ _ _ _ _⟩
theorem zeroOne_all {t : TypeId} {z : Value} (h : zeroOne P t = true) (hz : (P.info? t).bind (·.zero) = some z) : z.cells.all (·.oneCell') = true := by
  unfold zeroOne at h
  rw [hz] at h
  simpa using h
def aBuild (P : Program) (s : St) (t : TypeId) (parts : List (Nat × AV)) (k : AV → St → Prop) : Prop :=
  match P.underlying t with
  | some (.struct fields) =>
    match zeroCellsA P t, placesA P fields with
    | some cs, some places =>
      match fillA (places[·]?) cs parts with
      | some cells => zeroOne P t = true ∧ aTys P 3 t fun ts => k (.agg (s.ownAll ts cells).1) (s.ownAll ts cells).2
      | none => False
    | _, _ => False
  | _ => False
theorem aBuild_ok (h : SR D w φ env s) {t : TypeId} {parts : List (Nat × AV)} {vparts : Array (Nat × Value)} {k : AV → St → Prop} (hm : vparts.toList.map (·.1) = parts.map (·.1))
    (hv : ∀ (j : Nat) (x : Nat × Value) (y : Nat × AV), vparts.toList[j]? = some x → parts[j]? = some y → VR D w φ s.rows s.ctr x.2 y.2) (hk : aBuild P s t parts k) : Does D s.low P w φ env K (Instr.build t vparts) k := by
  unfold aBuild at hk
  split at hk
  · rename_i fields hd
    split at hk
    case h_2 => exact hk.elim
    rename_i cs places hcs hp
    split at hk
    case h_2 => exact hk.elim
    rename_i cells hf
    obtain ⟨h1, hk⟩ := hk
    obtain ⟨ts, hk⟩ := aTys_out _ _ _ hk
    obtain ⟨z, hz, rfl, hzz⟩ := zero_run hcs
    obtain ⟨cs', c1, c2⟩ := fill_ok parts vparts.toList z.cells _ cells (zero_pairs (zeroOne_all h1 hzz)) hm hv hf
    obtain ⟨φ1, a1, a2, a3, a4, a5, a6, a7⟩ := SR.ownAll ts cells h cs'.toList (by simpa using c2.1) (fun j x y hx hy => (c2.2 j x y (by simpa using hx) hy).2)
    refine ⟨.agg cs', _, w, φ1, _, ?_, a1, .agg _ _ (by rw [a2]; exact c2.1) (fun j v hj => ?_) (fun j v u hj hu => a3 j v u (by simpa using hj) hu), Keeps.refl _ _, fun g hg => .inl (a5 g hg), Lows.new (fun i hi => a6 i (by have h1 := h.lo; have h2 := h.len; omega)) (fun _ _ => rfl), a7, hk⟩
    · refine run_build w t vparts cs' ?_
      unfold Program.built
      cases hi : P.info? t with
      | none => simp [hi] at hzz
      | some it =>
        simp [hi] at hzz
        unfold placesA at hp
        simp only [hd, hzz, hp]
        simpa using c1
    · have hj' : j < cells.length := by rw [← c2.1]; exact (Array.getElem?_eq_some_iff.1 hj).1
      exact (c2.2 j v _ hj (List.getElem?_eq_getElem hj')).1
  · exact hk.elim
theorem flat_get (l : List AV) : ∀ (n j : Nat), j < n * l.length → ((List.replicate n l).flatten)[j]? = l[j % l.length]?
  | 0, j, h => by simp at h
  | n + 1, j, h => by
    rw [List.replicate_succ, List.flatten_cons]
    by_cases hj : j < l.length
    · rw [List.getElem?_append_left hj, Nat.mod_eq_of_lt hj]
    · have h2 : j < n * l.length + 1 * l.length := by rw [← Nat.add_mul]; exact h
      have h3 : j % l.length = (j - l.length) % l.length := Nat.mod_eq_sub_mod (by omega)
      rw [List.getElem?_append_right (by omega), flat_get l n (j - l.length) (by omega), h3]
theorem made_pairs {z : Value} (h1 : z.cells.all (·.oneCell') = true) (hs : 0 < z.cells.size) (n : Nat) : Pairs D w φ s (madeCells z.cells (n * z.cells.size)) ((List.replicate n (z.cells.toList.map constAV)).flatten) := by
  refine ⟨by simp [madeCells], fun j x y hx hy => ?_⟩
  have hj : j < n * z.cells.size := by
    have := (Array.getElem?_eq_some_iff.1 hx).1
    simpa [madeCells] using this
  rw [flat_get _ _ _ (by simpa using hj)] at hy
  simp only [List.length_map, Array.length_toList] at hy
  have hx' : z.cells[j % z.cells.size]? = some x := by
    have hm : j % z.cells.size < z.cells.size := Nat.mod_lt _ hs
    obtain ⟨hl, e⟩ := Array.getElem?_eq_some_iff.1 hx
    simp [madeCells] at e
    rw [Array.getElem?_eq_getElem hm, ← e]
    simp [hm]
  exact (zero_pairs (D := D) (w := w) (φ := φ) (s := s) h1).2 _ x y hx' hy
def bsz (P : Program) (t : TypeId) : Option Nat := (P.info? t).map (·.bytes)
def rep (n : Nat) : List AV → List AV
  | [u] => List.replicate n u
  | cs => (List.replicate n cs).flatten
theorem rep_eq (n : Nat) (cs : List AV) : rep n cs = (List.replicate n cs).flatten := by
  unfold rep
  split
  · induction n with
    | zero => rfl
    | succ n ih => rw [List.replicate_succ, List.replicate_succ, List.flatten_cons, ← ih]; rfl
  · rfl
def aMake (P : Program) (s : St) (t : TypeId) (l c : AV) (k : AV → St → Prop) : Prop :=
  match P.underlying t with
  | some (.slice e) =>
    match l, c with
    | .int _ l, .int _ c =>
      match zeroCellsA P e with
      | none => False
      | some cs => aSz P e fun z => (l ≤ c ∧ zeroOne P e = true ∧ cs.length = z ∧ (bsz P e).isSome = true) ∧ (0 ≤ l ∧ (((bsz P e).getD 0 : Nat) : Int) * c ≤ 281474976710656 ∧ c ≤ 9223372036854775807) ∧
          k (.ref s.rows.length s.ctr 0 l.toNat) (s.push ⟨s.ctr, e, z, rep c.toNat cs⟩)
    | _, _ => False
  | _ => False
theorem aMake_ok (h : SR D w φ env s) (hK : ∀ b, K b → b < w.heap.size) {t : TypeId} {l c : AV} {lv cv : Value} {k : AV → St → Prop} (hl : VR D w φ s.rows s.ctr lv l) (hc : VR D w φ s.rows s.ctr cv c) (hk : aMake P s t l c k) : Does D s.low P w φ env K (Instr.makeSlice t lv cv) k := by
  unfold aMake at hk
  split at hk
  · rename_i e hd
    split at hk
    · rename_i j l j' c
      split at hk
      case h_1 => exact hk.elim
      rename_i cs hcs
      have hk0 := aSz_out hk
      clear hk
      obtain ⟨z, hz, hz0, ⟨hlc, h1, hlen, hbs⟩, ⟨h0, hbytes, h63⟩, hk⟩ := hk0
      obtain ⟨b, hb⟩ := Option.isSome_iff_exists.1 hbs
      rw [hb, Option.getD_some] at hbytes
      rw [rep_eq] at hk
      have := hl.int_inv; subst this
      have := hc.int_inv; subst this
      obtain ⟨zv, hzr, rfl, hzz⟩ := zero_run hcs
      have hall := zeroOne_all h1 hzz
      have hzs : zv.cells.size = z := by simpa using hlen
      cases hi : P.info? e with
      | none => simp [hi] at hzz
      | some i =>
        simp [hi] at hzz
        have hsz : i.size = z := by simp [tsz, hi] at hz; exact hz
        have hby : i.bytes = b := by simp [bsz, hi] at hb; exact hb
        have hrun := run_make (P := P) w t e i zv hd hi hzz j j' l c h0 hlc (by rw [hby]; exact hbytes) h63
        have hp := made_pairs (D := D) (w := w) (φ := φ) (s := s) hall (by omega) c.toNat
        obtain ⟨b1, b2, b3⟩ := h.newBlock (madeCells zv.cells (c.toNat * i.size)) ((List.replicate c.toNat (zv.cells.toList.map constAV)).flatten) e z (by rw [hsz, ← hzs]; exact Nat.le_of_eq hp.1.symm) hz0 (fun j x y hx hy => hp.2 j x y (by rw [hzs, ← hsz]; exact hx) hy)
        refine ⟨_, _, _, _, _, hrun, b1, ?_, Keeps.alloc _ hK, fun g hg => ?_, Lows.new (fun i hi => List.getElem?_append_left (by have h1 := h.lo; have h2 := h.len; omega)) (fun b hb => Below.heap_alloc w _ b hb), rfl, hk⟩
        · refine .ref _ _ _ _ _ (by simp [St.push]) rfl fun r hr hver => .inr ⟨w.heap.size, _, c.toNat, madeCells zv.cells (c.toNat * i.size), ?_, rfl, by omega, ?_, ?_, fun _ => rfl, fun _ => ?_, ?_⟩
          · rw [← h.len]; simp [Places.snoc]
          · simp only [maxLen]; omega
          · have : r = ⟨s.ctr, e, z, (List.replicate c.toNat (zv.cells.toList.map constAV)).flatten⟩ := by
              simp only [St.push] at hr; rw [getElem?_snoc] at hr; simp at hr; exact hr.symm
            subst this; exact b3
          · have : r.size = z := by
              simp only [St.push] at hr; rw [getElem?_snoc] at hr; simp at hr; rw [← hr]
            rw [this, size_madeCells, hsz]
          · have : r.size = z := by
              simp only [St.push] at hr; rw [getElem?_snoc] at hr; simp at hr; rw [← hr]
            rw [this, size_madeCells, hsz]
            exact Nat.le_trans (by rw [Nat.zero_add]; exact Nat.le_refl _) (Nat.mul_le_mul_right z (by omega : l.toNat ≤ c.toNat))
        · rcases hg with hg | hg
          · exact .inl hg
          · cases hg; exact .inr (Nat.le_refl _)
    · exact hk.elim
  · exact hk.elim
def aBuildSlice (P : Program) (s : St) (t : TypeId) (len : Nat) (parts : List (Nat × AV)) (k : AV → St → Prop) : Prop :=
  match P.underlying t with
  | some (.slice e) =>
    match zeroCellsA P e with
    | none => False
    | some cs => aSz P e fun z =>
      match fillA (fun i => some (i * z, z)) (rep len cs) parts with
      | none => False
      | some cells => (zeroOne P e = true ∧ cs.length = z ∧ len * z ≤ 16777216) ∧ forceL cells fun cells => k (.ref s.rows.length s.ctr 0 len) (s.push ⟨s.ctr, e, z, cells⟩)
  | _ => False
theorem fillA_length {place : Nat → Option (Nat × Nat)} : ∀ (parts : List (Nat × AV)) (us cells : List AV), fillA place us parts = some cells → cells.length = us.length
  | [], us, cells, h => by simp only [fillA, Option.some.injEq] at h; rw [h]
  | (i, u) :: rest, us, cells, h => by
    simp only [fillA] at h
    split at h
    · rename_i p hp
      split at h
      · rename_i hc
        rw [fillA_length rest _ _ h]
        obtain ⟨_, h1, h2⟩ := hc
        simp; omega
      · cases h
    · cases h
theorem aBuildSlice_ok (h : SR D w φ env s) (hK : ∀ b, K b → b < w.heap.size) {t : TypeId} {len : Nat} {parts : List (Nat × AV)} {vparts : Array (Nat × Value)} {k : AV → St → Prop} (hm : vparts.toList.map (·.1) = parts.map (·.1))
    (hv : ∀ (j : Nat) (x : Nat × Value) (y : Nat × AV), vparts.toList[j]? = some x → parts[j]? = some y → VR D w φ s.rows s.ctr x.2 y.2) (hk : aBuildSlice P s t len parts k) : Does D s.low P w φ env K (Instr.buildSlice t len vparts) k := by
  unfold aBuildSlice at hk
  split at hk
  · rename_i e hd
    split at hk
    case h_1 => exact hk.elim
    rename_i cs hcs
    have hk0 := aSz_out hk
    clear hk
    obtain ⟨z, hz, hz0, hk⟩ := hk0
    split at hk
    case h_1 => exact hk.elim
    rename_i cells hf
    obtain ⟨⟨h1, hlen, hle⟩, hk⟩ := hk
    rw [forceL_eq] at hk
    rw [rep_eq] at hf
    obtain ⟨zv, hzr, rfl, hzz⟩ := zero_run hcs
    have hall := zeroOne_all h1 hzz
    have hzs : zv.cells.size = z := by simpa using hlen
    have hp := made_pairs (D := D) (w := w) (φ := φ) (s := s) hall (by omega) len
    obtain ⟨cs', c1, c2⟩ := fill_ok parts vparts.toList _ _ cells hp hm hv hf
    obtain ⟨b1, b2, b3⟩ := h.newBlock cs' cells e z (Nat.le_of_eq c2.1.symm) hz0 c2.2
    have hsize : cs'.size = len * z := by rw [c2.1, fillA_length _ _ _ hf, ← hp.1, size_madeCells, hzs]
    refine ⟨.slice (some ⟨w.heap.size, 0, none⟩) len len, _, w.alloc (.cells cs' e), _, _, ?_, b1, ?_, Keeps.alloc _ hK, fun g hg => ?_, Lows.new (fun i hi => List.getElem?_append_left (by have h1 := h.lo; have h2 := h.len; omega)) (fun b hb => Below.heap_alloc w _ b hb), rfl, hk⟩
    · have hc1 : Instr.fill (fun i => some (i * z, z)) ((Array.range (len * z)).map (zv.cells[· % zv.cells.size]!)) vparts.toList = some cs' := by
        rw [← c1, hzs]; simp [madeCells, hzs]
      have hnle : ¬ (len * z > 2 ^ 24) := by omega
      by_cases hl0 : len * z = 0
      · have hl : len = 0 := by
          rcases Nat.mul_eq_zero.1 hl0 with h' | h'
          · exact h'
          · exact absurd h' hz0
        subst hl
        have hc2 : Instr.fill (fun i => some (i * z, z)) #[] vparts.toList = some cs' := by
          have e0 : (Array.range (0 * z)).map (zv.cells[· % zv.cells.size]!) = #[] := Array.eq_empty_of_size_eq_zero (by simp)
          rw [← hc1, e0]
        have e0 : (Array.range 0).map (zv.cells[· % zv.cells.size]!) = #[] := Array.eq_empty_of_size_eq_zero (by simp)
        have e1 : (Array.range 0).map ((#[] : Array Value)[· % 0]!) = #[] := Array.eq_empty_of_size_eq_zero (by simp)
        simp only [Instr.buildSlice, Sem.run_bind, run_underlying hd, Result.andThen_ok, run_tsz hz, Nat.zero_mul, gt_iff_lt, Nat.not_lt_zero, if_false, if_true, Sem.run_pure, Array.size_empty, e1, hc2, newRow, run_newObj]
        rfl
      · simp only [Instr.buildSlice, Sem.run_bind, run_underlying hd, Result.andThen_ok, run_tsz hz, hnle, if_false, hl0, Sem.run_pure, hzr, hc1, newRow, run_newObj]
        rfl
    · have hr' : ∀ r, (s.push ⟨s.ctr, e, z, cells⟩).rows[s.rows.length]? = some r → r = ⟨s.ctr, e, z, cells⟩ := fun r hr => by
        simp only [St.push] at hr; rw [getElem?_snoc] at hr; simp at hr; exact hr.symm
      refine .ref _ _ _ _ _ (by simp [St.push]) rfl fun r hr hver => ?_
      have := hr' r hr; subst this
      refine .inr ⟨w.heap.size, _, len, cs', ?_, rfl, Nat.le_refl _, ?_, b3, fun _ => rfl, fun _ => hsize, ?_⟩
      · rw [← h.len]; simp [Places.snoc]
      · simp only [maxLen]
        have : len ≤ len * z := Nat.le_mul_of_pos_right _ (by omega)
        omega
      · rw [hsize]; simp
    · rcases hg with hg | hg
      · exact .inl hg
      · cases hg; exact .inr (Nat.le_refl _)
  · exact hk.elim
end
end Go.Am
