/- The abstract machine, part D: all operations that yield a value and leave the world alone, as one; new rows; stores. -/
import Derived.Test.YtegoncendpboiaaAmC
namespace Go.Am
open Go.RowKit
variable {D : Nat → Prop}

def aVal (P : Program) (o : Oper) (s : St) (k : AV → Prop) : Prop :=
  match o.op with
  | .move x => k (s.ev x)
  | .assign x => k (s.ev x)
  | .pick c a b =>
    match s.ev c with
    | .bool c => aIf c (k (s.ev a)) (k (s.ev b))
    | _ => False
  | .load t a => aLoad P s t (s.ev a) k
  | .nilCheck x => aNil s (s.ev x) k
  | .binOp op t x y _ => aBin P op t (s.ev x) (s.ev y) k
  | .unOp op _ x => aUn op (s.ev x) k
  | .convert src dst x =>
    match P.underlying src with
    | some _ => aConv P dst (s.ev x) k
    | none => False
  | .slice t x lo hi mx =>
    match mx with
    | none => aSlice P s t (s.ev x) (lo.map s.ev) (hi.map s.ev) k
    | some _ => False
  | .fieldAddr t x f => aFieldAddr P s t (s.ev x) f k
  | .field t x f => aField P t (s.ev x) f k
  | .indexAddr t x i => aIndexAddr P s t (s.ev x) (s.ev i) k
  | .index t x i => aIndex P t (s.ev x) (s.ev i) k
  | .extract x i => aExtract (s.ev x) i k
  | .call c =>
    match c.callee with
    | .builtin .len =>
      match c.args.toList, c.argTypes.toList with
      | [x], [t] => aLen P t s (s.ev x) k
      | _, _ => False
    | _ => False
  | _ => False

section
variable {P : Program} {w : World} {φ : Places} {s : St}

/-- Does it look at memory? -/
def loadsO (o : Oper) : Bool :=
  match o.op with
  | .load _ _ => true
  | _ => false
theorem aVal_okL {a : Act} {o : Oper} {k : AV → Prop} (h : SR D w φ a.tmps.toList s) (hk : aVal P o s k) :
    ∃ v u, (∀ w', (loadsO o = true → Ext w w') → (execOp a.eval o).run P w' = .ok (.value v) w') ∧ VR D w φ s.rows s.ctr v u ∧ k u := by
  unfold aVal at hk
  split at hk
  · rename_i x ho
    exact ⟨_, _, fun w' _ => by simp [execOp, ho], h.ev x, hk⟩
  · rename_i x ho
    exact ⟨_, _, fun w' _ => by simp [execOp, ho], h.ev x, hk⟩
  · rename_i c x y ho
    have hc := h.ev c
    generalize s.ev c = cu at hk hc
    split at hk
    case h_2 => exact hk.elim
    rename_i b
    have hb := hc.bool_inv
    cases b with
    | true => exact ⟨_, _, fun w' _ => by simp [execOp, ho, hb, asBool], h.ev x, hk.1 rfl⟩
    | false => exact ⟨_, _, fun w' _ => by simp [execOp, ho, hb, asBool], h.ev y, hk.2 rfl⟩
  · rename_i t x ho
    obtain ⟨v, u, h1, h2, h3⟩ := aLoad_ok h (h.ev x) hk
    exact ⟨v, u, fun w' hw => by simp [execOp, ho, h1 w' (hw (by simp [loadsO, ho]))], h2, h3⟩
  · rename_i x ho
    have hx := h.ev x
    unfold aNil at hk
    generalize s.ev x = xu at hk hx
    generalize hv : a.eval x = xv at hx
    split at hk
    · cases hx with
      | rd ad _ vs hs hF hlt hl hc h1 hv' => exact ⟨_, _, fun w' _ => by simp only [execOp, ho, hv, Sem.run_pure], .rd ad _ vs hs hF hlt hl hc h1 hv', hk⟩
    · obtain ⟨r, hr, hver, hk⟩ := aRow_out hk
      cases hx with
      | ptr _ _ _ _ hlt h1 hp =>
        obtain ⟨g, hg, rfl⟩ := hp r hr hver
        exact ⟨_, _, fun w' _ => by simp only [execOp, ho, hv, Sem.run_pure], .ptr _ _ _ _ hlt h1 hp, hk⟩
    · exact hk.elim
  · rename_i op t x y yt ho
    obtain ⟨v, u, h1, h2, h3⟩ := aBin_ok (xo := x) (yo := y) (h.ev x) (h.ev y) hk
    refine ⟨v, u, fun w' hw => ?_, h2, h3⟩
    have e := h1 w'
    unfold execOp
    simp only [ho]
    rw [Sem.run_bind, e]
    rfl
  · rename_i op t x ho
    obtain ⟨v, u, h1, h2, h3⟩ := aUn_ok (P := P) (h.ev x) hk
    exact ⟨v, u, fun w' hw => by simp [execOp, ho, h1 w'], h2, h3⟩
  · rename_i src dst x ho
    split at hk
    case h_2 => exact hk.elim
    rename_i d hd
    obtain ⟨v, u, h1, h2, h3⟩ := aConv_ok hd (h.ev x) hk
    exact ⟨v, u, fun w' hw => by simp [execOp, ho, h1 w'], h2, h3⟩
  · rename_i t x lo hi mx ho
    split at hk
    case h_2 => exact hk.elim
    obtain ⟨v, u, h1, h2, h3⟩ := aSlice_ok (lov := lo.map a.eval) (hiv := hi.map a.eval) (h.ev x) (by cases lo <;> simp [h.ev]) (by cases hi <;> simp [h.ev]) hk
    exact ⟨v, u, fun w' hw => by simp [execOp, ho, h1 w'], h2, h3⟩
  · rename_i t x f ho
    obtain ⟨v, u, h1, h2, h3⟩ := aFieldAddr_ok (h.ev x) hk
    exact ⟨v, u, fun w' hw => by simp [execOp, ho, h1 w'], h2, h3⟩
  · rename_i t x f ho
    obtain ⟨v, u, h1, h2, h3⟩ := aField_ok (h.ev x) hk
    exact ⟨v, u, fun w' hw => by simp [execOp, ho, h1 w'], h2, h3⟩
  · rename_i t x i ho
    obtain ⟨v, u, h1, h2, h3⟩ := aIndexAddr_ok (h.ev x) (h.ev i) hk
    exact ⟨v, u, fun w' hw => by simp [execOp, ho, h1 w'], h2, h3⟩
  · rename_i t x i ho
    obtain ⟨v, u, h1, h2, h3⟩ := aIndex_ok (h.ev x) (h.ev i) hk
    exact ⟨v, u, fun w' hw => by simp [execOp, ho, h1 w'], h2, h3⟩
  · rename_i x i ho
    obtain ⟨v, u, h1, h2, h3⟩ := aExtract_ok (P := P) (h.ev x) hk
    exact ⟨v, u, fun w' hw => by simp [execOp, ho, h1 w'], h2, h3⟩
  · rename_i c ho
    split at hk
    · rename_i hc
      split at hk
      case h_2 => exact hk.elim
      rename_i x t ha' ht'
      have ha : c.args = #[x] := by rw [← Array.toList_inj]; exact ha'
      have ht : c.argTypes = #[t] := by rw [← Array.toList_inj]; exact ht'
      obtain ⟨v, u, h1, h2, h3⟩ := aLen_ok (P := P) (h.ev x) hk
      refine ⟨v, u, fun w' hw => ?_, h2, h3⟩
      have e : ∀ ty, Builtin.len_ #[t] ty #[a.eval x] = Builtin.len_ #[t] 0 #[a.eval x] := fun _ => rfl
      simp [execOp, ho, resolve, hc, ha, ht, invoke, builtin, e, h1 w']
    · exact hk.elim
  · exact hk.elim

theorem aVal_ok {a : Act} {o : Oper} {k : AV → Prop} (h : SR D w φ a.tmps.toList s) (hk : aVal P o s k) :
    ∃ v u, (∀ w', Ext w w' → (execOp a.eval o).run P w' = .ok (.value v) w') ∧ VR D w φ s.rows s.ctr v u ∧ k u := by
  obtain ⟨v, u, h1, h2, h3⟩ := aVal_okL h hk
  exact ⟨v, u, fun w' hw => h1 w' fun _ => hw, h2, h3⟩

/-- The places of a state, one more. -/
theorem getElem?_snoc {α : Type} (l : List α) (x : α) (t : Nat) : (l ++ [x])[t]? = if t < l.length then l[t]? else if t = l.length then some x else none := by
  by_cases h : t < l.length
  · rw [if_pos h, List.getElem?_append_left h]
  · by_cases e : t = l.length
    · subst e; simp
    · have : l.length + 1 ≤ t := by omega
      simp [h, e]; omega

def St.push (s : St) (r : Row) : St := { s with rows := s.rows ++ [r], ctr := s.ctr + 1 }

/-- A new row; the world has a new block for it, or none; its cells are values. -/
theorem SR.push {env : List Value} (h : SR D w φ env s) {w' : World} {r : Row} {ob : Option Nat} (hv : r.ver = s.ctr) (hw : Ext w w') (hob : ∀ g, ob = some g → w.heap.size ≤ g ∧ g < w'.heap.size)
    (hrow : RowOk D w' (φ.snoc ob) (s.rows ++ [r]) (s.ctr + 1) r ob fun _ => noFoot) (hz : r.size = 0 → ob = none) : SR D w' (φ.snoc ob) env (s.push r) ∧ Mv w φ s.rows s.ctr w' (φ.snoc ob) (s.push r).rows (s.push r).ctr := by
  have hlen := h.len
  obtain ⟨ω, hn⟩ := h.nest
  have m : Mv w φ s.rows s.ctr w' (φ.snoc ob) (s.push r).rows (s.push r).ctr := by
    refine ⟨hw.sz, by simp [St.push], fun b hb hF => ⟨?_, hw.bl b hb⟩, fun t r' hr' hlt => ?_⟩
    · rintro (h1 | h1)
      · exact hF h1
      · have := (hob b h1).1
        omega
    · simp only [St.push] at hr'
      rw [getElem?_snoc] at hr'
      split at hr'
      · rename_i ht
        refine ⟨r', hr', rfl, rfl, rfl, ?_, fun g cur hg hc => ⟨cur, ?_, rfl⟩⟩
        · simp only [Places.snoc]
          rw [List.getElem?_append_left (by omega)]
        · rw [hw.bl g (lt_of_heap hc)]; exact hc
      · split at hr'
        · cases hr'; omega
        · cases hr'
  have hnest : Nest D w' (φ.snoc ob) (s.push r).rows (s.push r).ctr ω := by
    refine ⟨fun t r' ob' hr' hob' => ?_, fun t ht j => ?_, ⟨hn.ap.uq, fun t j p b hb hm => ?_, fun t j p b hb => .inl (hn.ap.oc t j p b hb)⟩⟩
    · simp only [St.push, Places.snoc] at hr' hob'
      rw [getElem?_snoc] at hr' hob'
      split at hr'
      · rename_i ht
        rw [if_pos (by omega)] at hob'
        refine (hn.row t r' ob' hr' hob').mv m (fun g hg => hw.bl g (h.lt g (h.occ g ?_))) (fun j p b hF => hw.bl b (h.lt b (hn.ap.oc t j p b hF)))
        subst hg
        exact List.mem_of_getElem? hob'
      · split at hr'
        · rename_i ht
          rw [if_neg (by omega), if_pos (by omega)] at hob'
          cases hr'; cases hob'
          have e : ω t = fun _ => noFoot := funext fun j => hn.out t (List.getElem?_eq_none (by omega)) j
          rw [e]
          exact hrow
        · cases hr'
    · refine hn.out t (List.getElem?_eq_none ?_) j
      simp only [St.push] at ht
      rw [List.getElem?_eq_none_iff] at ht
      simp at ht; omega
    · simp only [Places.snoc, List.mem_append, List.mem_singleton] at hm
      rcases hm with hm | hm
      · exact hn.ap.nf t j p b hb hm
      · have h1 := (hob b hm.symm).1
        have h2 := h.lt b (hn.ap.oc t j p b hb)
        omega
  have hlt' : ∀ g, (φ.snoc ob).O g → g < w'.heap.size := fun g hg => by
    rcases hg with hg | hg
    · exact Nat.lt_of_lt_of_le (h.lt g hg) hw.sz
    · exact (hob g hg).2
  refine ⟨h.mv m rfl (by simp [St.push, Places.snoc, hlen]) (by have := h.lo; simp only [St.push, List.length_append]; omega) (fun t t' g hg hg' => ?_) hlt' (fun g hg => ?_) (fun r' hr' => ?_) ⟨ω, hnest⟩ (fun t r' hr' hz' => ?_) (fun g hg => ?_), m⟩
  · simp only [Places.snoc] at hg hg'
    rw [getElem?_snoc] at hg hg'
    split at hg
    · rename_i h1
      have m1 : some g ∈ φ.l := List.mem_of_getElem? hg
      split at hg'
      · exact h.inj t t' g hg hg'
      · split at hg'
        · cases hg'; have := h.lt g (h.occ g m1); have := (hob g rfl).1; omega
        · cases hg'
    · split at hg
      · cases hg
        split at hg'
        · have m1 : some g ∈ φ.l := List.mem_of_getElem? hg'
          have := h.lt g (h.occ g m1); have := (hob g rfl).1; omega
        · split at hg'
          · omega
          · cases hg'
      · cases hg
  · simp only [Places.snoc, List.mem_append, List.mem_singleton] at hg
    rcases hg with hg | hg
    · exact .inl (h.occ g hg)
    · exact .inr hg.symm
  · simp only [St.push, List.mem_append, List.mem_singleton] at hr' ⊢
    rcases hr' with hr' | rfl
    · have := h.ver r' hr'; omega
    · omega
  · simp only [St.push] at hr'
    simp only [Places.snoc]
    rw [getElem?_snoc] at hr' ⊢
    split at hr'
    · rename_i ht
      rw [if_pos (by omega)]
      exact h.sz0 t r' hr' hz'
    · split at hr'
      · rename_i ht
        cases hr'
        rw [if_neg (by omega), if_pos (by omega), hz hz']
      · cases hr'
  · rcases hg with hg | hg
    · exact h.dis g hg
    · intro hd; have := h.dlt g hd; have := (hob g hg).1; omega

def tyAt : List (TypeId × Nat) → TypeId × Nat
  | [] => (0, 0)
  | x :: _ => x
/-- The kinds of slices among the cells of a type: what their elements are, and how great. -/
def aTysF (f : TypeId → (List (TypeId × Nat) → Prop) → Prop) : List Field → (List (TypeId × Nat) → Prop) → Prop
  | [], k => k []
  | x :: xs, k => f x.type fun l => aTysF f xs fun l' => k (l ++ l')
def aTys (P : Program) : Nat → TypeId → (List (TypeId × Nat) → Prop) → Prop
  | 0, _, k => k []
  | n + 1, t, k =>
    match P.underlying t with
    | some (.slice e) =>
      match tsz P e with
      | some 1 => k [(e, 1)]
      | some (m + 2) => k [(e, m + 2)]
      | _ => k [(0, 0)]
    | some (.struct fs) => aTysF (aTys P n) fs.toList k
    | _ => k [(0, 0)]
theorem aTysF_out {f : TypeId → (List (TypeId × Nat) → Prop) → Prop} (hf : ∀ t k, f t k → ∃ l, k l) : ∀ (fs : List Field) (k : List (TypeId × Nat) → Prop), aTysF f fs k → ∃ l, k l
  | [], k, h => ⟨[], h⟩
  | x :: xs, k, h => by
    obtain ⟨l, h⟩ := hf _ _ h
    obtain ⟨l', h⟩ := aTysF_out hf xs _ h
    exact ⟨_, h⟩
theorem aTys_out {P : Program} : ∀ (n : Nat) (t : TypeId) (k : List (TypeId × Nat) → Prop), aTys P n t k → ∃ l, k l
  | 0, t, k, h => ⟨[], h⟩
  | n + 1, t, k, h => by
    unfold aTys at h
    split at h
    · split at h <;> exact ⟨_, h⟩
    · exact aTysF_out (aTys_out n) _ _ h
    · exact ⟨_, h⟩

/-- A nil slice becomes a row of its own. -/
def St.own (s : St) (ez : TypeId × Nat) (u : AV) : AV × St :=
  match u with
  | .nil => (.ref s.rows.length s.ctr 0 0, s.push ⟨s.ctr, ez.1, ez.2, []⟩)
  | u => (u, s)

theorem SR.own {env : List Value} (h : SR D w φ env s) (ez : TypeId × Nat) {v : Value} {u : AV} (hv : VR D w φ s.rows s.ctr v u) :
    ∃ φ', SR D w φ' env (s.own ez u).2 ∧ VR D w φ' (s.own ez u).2.rows (s.own ez u).2.ctr v (s.own ez u).1 ∧ Mv w φ s.rows s.ctr w φ' (s.own ez u).2.rows (s.own ez u).2.ctr ∧ (∀ g, φ'.O g → φ.O g) ∧ (∀ i : Nat, i < φ.l.length → φ'.l[i]? = φ.l[i]?) ∧ (s.own ez u).2.low = s.low := by
  unfold St.own
  split
  · obtain ⟨h1, h2⟩ := h.push (r := ⟨s.ctr, ez.1, ez.2, []⟩) (ob := none) rfl (Ext.refl w) (fun g hg => by cases hg) ⟨rfl, fun _ => rfl⟩ (fun _ => rfl)
    refine ⟨φ.snoc none, h1, ?_, h2, fun g hg => by simpa [Places.snoc] using hg, fun i hi => List.getElem?_append_left hi, rfl⟩
    cases hv with
    | nil =>
      refine .ref _ _ _ _ _ (by simp [St.push]) rfl fun r hr hver => .inl ⟨?_, rfl, rfl, rfl⟩
      rw [← h.len]; simp [Places.snoc]
  · exact ⟨φ, h, hv, ⟨Nat.le_refl _, Nat.le_refl _, fun b hb hF => ⟨hF, rfl⟩, fun t r' hr' _ => ⟨r', hr', rfl, rfl, rfl, rfl, fun g cur _ hc => ⟨cur, hc, rfl⟩⟩⟩, fun g hg => hg, fun _ _ => rfl, rfl⟩

end
end Go.Am
