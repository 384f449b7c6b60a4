/- The abstract machine, part K: a call does what its contract says. -/
import Derived.Test.YtmhpandbmoalaaaAmJ
namespace Go.Am
open Go.RowKit
variable {D : Nat → Prop}

theorem nodup_get : ∀ {T : List Nat} (_ : T.Nodup) {i j t : Nat} (_ : T[i]? = some t) (_ : T[j]? = some t), i = j
  | [], _, i, j, t, hi, _ => by simp at hi
  | x :: T, h, i, j, t, hi, hj => by
    rw [List.nodup_cons] at h
    cases i with
    | zero =>
      cases j with
      | zero => rfl
      | succ j =>
        simp at hi hj
        subst hi
        exact absurd (List.mem_of_getElem? hj) h.1
    | succ i =>
      cases j with
      | zero =>
        simp at hi hj
        subst hj
        exact absurd (List.mem_of_getElem? hi) h.1
      | succ j =>
        have := nodup_get (i := i) (j := j) (t := t) h.2 (by simpa using hi) (by simpa using hj)
        omega

theorem upd_get {ins : List Row} {ic : List (List AV)} {i : Nat} {r : Row} {c : List AV} (hr : ins[i]? = some r) (hc : ic[i]? = some c) : (upd ins ic)[i]? = some { r with cells := c } := by
  simp [upd, List.getElem?_zipWith, hr, hc]
theorem upd_length {ins : List Row} {ic : List (List AV)} (h : ic.length = ins.length) : (upd ins ic).length = ins.length := by simp [upd, h]

section
variable {P : Program} {w : World} {φ : Places} {s : St} {env : List Value} {K : Nat → Prop}

theorem callArgs_get {T : List Nat} : ∀ (args : List AV) (bs : List Bool) (us : List AV), callArgs s T bs args = some us → us.length = args.length ∧ ∀ (j : Nat) (u' : AV), us[j]? = some u' → ∃ b u, args[j]? = some u ∧ callArg s T b u = some u' ∧ (b = true → ∀ τ ver off n, u = .ref τ ver off n → τ ∈ mutTags bs args) ∧ (∀ τ ver off, u = .ptr τ ver off → τ ∈ mutTags bs args)
  | [], bs, us, h => by
    simp only [callArgs, Option.some.injEq] at h; subst h
    exact ⟨rfl, fun j u' hu => by simp at hu⟩
  | u :: args, bs, us, h => by
    simp only [callArgs, Option.bind_eq_some_iff, Option.map_eq_some_iff] at h
    obtain ⟨u1, h1, us', h2, rfl⟩ := h
    obtain ⟨a1, a2⟩ := callArgs_get args bs.tail us' h2
    refine ⟨by simp [a1], fun j u' hu => ?_⟩
    cases j with
    | zero =>
      simp at hu; subst hu
      refine ⟨_, u, rfl, h1, fun hb τ ver off n e => ?_, fun τ ver off e => ?_⟩
      · subst e; unfold mutTags; simp only [hb, if_true]; exact List.mem_cons_self
      · subst e; unfold mutTags; exact List.mem_cons_self
    | succ j =>
      obtain ⟨b, u0, b1, b2, b3, b4⟩ := a2 j u' (by simpa using hu)
      refine ⟨b, u0, by simpa using b1, b2, fun hb τ ver off n e => ?_, fun τ ver off e => ?_⟩
      · have := b3 hb τ ver off n e
        unfold mutTags
        split
        · exact List.mem_cons_of_mem _ this
        · split
          · exact List.mem_cons_of_mem _ this
          · exact this
        · exact this
      · have := b4 τ ver off e
        unfold mutTags
        split
        · exact List.mem_cons_of_mem _ this
        · split
          · exact List.mem_cons_of_mem _ this
          · exact this
        · exact this

/-- The state in which the callee begins. -/
theorem SR.enter (h : SR D w φ env s) {args us : List AV} {vs : Array Value} {bs : List Bool} {T : List Nat} {ins : List Row} (hT : ∀ τ ∈ mutTags bs args, τ ∈ T) (hn : T.Nodup) (ha : callArgs s T bs args = some us) (hi : insOf s T T = some ins)
    (hl : vs.size = args.length) (hv : ∀ (j : Nat) (v : Value) (u : AV), vs[j]? = some v → args[j]? = some u → VR D w φ s.rows s.ctr v u) :
    SR D w (T.map fun τ => φ.getD τ none) vs.toList ⟨us, ins, 1, ins.length⟩ ∧ (∀ r ∈ ins, r.ver = 0) ∧ ins.length = T.length ∧ (∀ (i τ : Nat), T[i]? = some τ → ∃ (r : Row) (c : List AV), s.rows[τ]? = some r ∧ ins[i]? = some { r with ver := 0, cells := c }) := by
  obtain ⟨i1, i2⟩ := mapM_get hi
  have hin : ∀ (i : Nat) (r' : Row), ins[i]? = some r' → ∃ τ r c, T[i]? = some τ ∧ s.rows[τ]? = some r ∧ r.cells.mapM (s.tree T 4) = some c ∧ r' = { r with ver := 0, cells := c } := by
    intro i r' hr'
    obtain ⟨τ, hτ, hb⟩ := i2 i r' hr'
    simp only [Option.bind_eq_some_iff, Option.map_eq_some_iff] at hb
    obtain ⟨r, hr, c, hc, rfl⟩ := hb
    exact ⟨τ, r, c, hτ, hr, hc, rfl⟩
  have hTin : ∀ (i τ : Nat), T[i]? = some τ → ∃ (r : Row) (c : List AV), s.rows[τ]? = some r ∧ ins[i]? = some { r with ver := 0, cells := c } := by
    intro i τ hτ
    have hlt : i < ins.length := by rw [i1]; exact (List.getElem?_eq_some_iff.1 hτ).1
    obtain ⟨τ', r, c, b1, b2, b3, b4⟩ := hin i _ (List.getElem?_eq_getElem hlt)
    rw [hτ] at b1; cases b1
    exact ⟨r, c, b2, by rw [← b4]; exact List.getElem?_eq_getElem hlt⟩
  have hφ : ∀ (i : Nat) (ob : Option Nat), (T.map fun τ => φ.getD τ none)[i]? = some ob → ∃ τ, T[i]? = some τ ∧ φ[τ]? = some ob := by
    intro i ob hob
    simp only [List.getElem?_map, Option.map_eq_some_iff] at hob
    obtain ⟨τ, hτ, rfl⟩ := hob
    obtain ⟨r, c, hr, _⟩ := hTin i τ hτ
    have : τ < φ.length := by rw [h.len]; exact (List.getElem?_eq_some_iff.1 hr).1
    exact ⟨τ, hτ, by simp [List.getD, List.getElem?_eq_getElem this]⟩
  have hmem : ∀ g, some g ∈ (T.map fun τ => φ.getD τ none) → ∃ τ ∈ T, φ[τ]? = some (some g) := by
    intro g hg
    obtain ⟨i, hi'⟩ := List.getElem?_of_mem hg
    obtain ⟨τ, a1, a2⟩ := hφ i _ hi'
    exact ⟨τ, List.mem_of_getElem? a1, a2⟩
  obtain ⟨c1, c2⟩ := callArgs_get (s := s) (T := T) args bs us ha
  refine ⟨⟨fun g hg => ?_, h.dlt, by simp [i1], Nat.le_refl _, fun i j g hi' hj' => ?_, fun g hg => ?_, fun r hr => ?_, fun i r ob hr hob => ?_, fun i r hr hz => ?_, by simp [c1, hl], fun j v u hv' hu => ?_⟩, fun r hr => ?_, i1, hTin⟩
  · obtain ⟨τ, _, a2⟩ := hmem g hg
    exact h.dis g (List.mem_of_getElem? a2)
  · obtain ⟨τ, a1, a2⟩ := hφ i _ hi'
    obtain ⟨τ', b1, b2⟩ := hφ j _ hj'
    have := h.inj τ τ' g a2 b2
    subst this
    exact nodup_get hn a1 b1
  · obtain ⟨τ, _, a2⟩ := hmem g hg
    exact h.lt g (List.mem_of_getElem? a2)
  · obtain ⟨i, hi'⟩ := List.getElem?_of_mem hr
    obtain ⟨τ, r0, c, b1, b2, b3, rfl⟩ := hin i r hi'
    exact Nat.zero_lt_one
  · obtain ⟨τ, r0, c, b1, b2, b3, rfl⟩ := hin i r hr
    obtain ⟨τ', a1, a2⟩ := hφ i _ hob
    rw [b1] at a1; cases a1
    have hrow := h.row τ r0 ob b2 a2
    obtain ⟨m1, m2⟩ := mapM_get b3
    cases ob with
    | none =>
      have h0 : r0.cells = [] := hrow
      rw [h0] at b3
      simp at b3
      subst b3
      exact rfl
    | some g =>
      obtain ⟨cur, d1, d2, d3⟩ := hrow
      refine ⟨cur, d1, by simp only; omega, fun j u hu => ?_⟩
      obtain ⟨a, ha', hg⟩ := m2 j u hu
      obtain ⟨v, e1, e2, e3⟩ := d3 j a ha'
      exact ⟨v, e1, e2, h.tree hmem 4 e3 hg⟩
  · obtain ⟨τ, r0, c, b1, b2, b3, rfl⟩ := hin i r hr
    have := h.sz0 τ r0 b2 hz
    simp [List.getElem?_map, b1, List.getD, this]
  · obtain ⟨b, u0, a1, a2, a3, a4⟩ := c2 j u hu
    have hv0 := hv j v u0 (by simpa using hv') a1
    have hmt : ∀ τ, τ ∈ T → ∃ i : Nat, T[i]? = some τ ∧ T.idxOf τ = i := fun τ hτ => ⟨T.idxOf τ, by
      have := List.idxOf_lt_length_of_mem hτ
      rw [List.getElem?_eq_getElem this, List.getElem_idxOf], rfl⟩
    unfold callArg at a2
    split at a2
    · rename_i τ ver off
      split at a2
      case h_2 => cases a2
      rename_i r hr
      split at a2
      case isFalse => cases a2
      rename_i hver
      simp only [Option.some.injEq] at a2
      subst a2
      obtain ⟨i, hi1, hi2⟩ := hmt τ (hT τ (a4 τ ver off rfl))
      cases hv0 with
      | ptr _ _ _ _ hlt h1 hp =>
        obtain ⟨g, hg, rfl⟩ := hp r hr hver
        rw [hi2]
        refine .ptr _ _ _ _ Nat.zero_lt_one rfl fun r' hr' _ => ⟨g, ?_, rfl⟩
        simp [List.getElem?_map, hi1, List.getD, hg]
    · rename_i τ ver off n
      split at a2
      · rename_i hb
        split at a2
        case h_2 => cases a2
        rename_i r hr
        split at a2
        case isFalse => cases a2
        rename_i hver
        simp only [Option.some.injEq] at a2
        subst a2
        obtain ⟨i, hi1, hi2⟩ := hmt τ (hT τ (a3 hb τ ver off n rfl))
        rw [hi2]
        cases hv0 with
        | ref _ _ _ _ _ hlt h1 hp =>
          refine .ref _ _ _ _ _ Nat.zero_lt_one h1 fun r' hr' _ => ?_
          obtain ⟨τ', r0, c, b1, b2, b3, rfl⟩ := hin i r' hr'
          rw [hi1] at b1; cases b1
          rw [hr] at b2; cases b2
          rcases hp r hr hver with ⟨e1, e2, e3, e4⟩ | ⟨g, A, cap, cur, e1, e2, e3, e4, e5, e6, e7, e8⟩
          · exact .inl ⟨by simp [List.getElem?_map, hi1, List.getD, e1], e2, e3, e4⟩
          · exact .inr ⟨g, A, cap, cur, by simp [List.getElem?_map, hi1, List.getD, e1], e2, e3, e4, e5, e6, e7, e8⟩
      · exact h.tree hmem 4 hv0 a2
    · exact h.tree hmem 4 hv0 a2
  · obtain ⟨i, hi'⟩ := List.getElem?_of_mem hr
    obtain ⟨τ, r0, c, b1, b2, b3, rfl⟩ := hin i r hi'
    rfl

/-- A call: what the contract says of it, in the caller's words. -/
theorem aCall_ok (h : SR D w φ env s) (hKa : ∀ g, some g ∈ φ → ¬ K g) (hKl : ∀ b, K b → b < w.heap.size) {f : FuncId} {args : List AV} {vs : Array Value} {k : AV → St → Prop} (hl : vs.size = args.length)
    (hv : ∀ (j : Nat) (v : Value) (u : AV), vs[j]? = some v → args[j]? = some u → VR D w φ s.rows s.ctr v u) (hk : aCall P f s args k) :
    Enters P f ∧ Calls P f vs w fun e w' => ∃ (v : Value) (u : AV) (φ' : Places) (s' : St), e = .returned v ∧ SR D w' φ' env s' ∧ VR D w' φ' s'.rows s'.ctr v u ∧ Keeps K w w' ∧ (∀ g, some g ∈ φ' → some g ∈ φ ∨ w.heap.size ≤ g) ∧ Lows s.low w φ w' φ' ∧ s'.low = s.low ∧ k u s' := by
  obtain ⟨sp, hs, T, us, ins, hT, hn, ha, hi, x, rfl, rfl, hpre, hk⟩ := hk
  obtain ⟨hent, hcall⟩ := hs
  obtain ⟨e1, e2, e3, e4⟩ := h.enter (fun τ h' => by rw [hT]; exact h') hn ha hi hl hv
  refine ⟨hent, (hcall x hpre D w vs _ e1 e2).mono ?_⟩
  rintro e w' ⟨v, r, ic, news, φ', rfl, hpost, hic, hicp, hnews, hres, hkeep, hsr, hlow, hfresh⟩
  have hicT : ic.length = T.length := hic.trans e3
  have hk := hk r ic news hpost hicT
  have hφc : ∀ (i τ : Nat), T[i]? = some τ → (T.map fun τ => φ.getD τ none)[i]? = φ[τ]? := by
    intro i τ hτ
    obtain ⟨r, c, hr, _⟩ := e4 i τ hτ
    have : τ < φ.length := by rw [h.len]; exact (List.getElem?_eq_some_iff.1 hr).1
    simp [List.getElem?_map, hτ, List.getD, List.getElem?_eq_getElem this]
  have hmemc : ∀ g, some g ∈ (T.map fun τ => φ.getD τ none) → ∃ (i τ : Nat), T[i]? = some τ ∧ φ[τ]? = some (some g) := by
    intro g hg
    obtain ⟨i, hi'⟩ := List.getElem?_of_mem hg
    have hi2 := hi'
    simp only [List.getElem?_map, Option.map_eq_some_iff] at hi'
    obtain ⟨τ, hτ, _⟩ := hi'
    exact ⟨i, τ, hτ, by rw [← hφc i τ hτ]; exact hi2⟩
  have hmem : ∀ g, some g ∈ (T.map fun τ => φ.getD τ none) → some g ∈ φ := fun g hg => by
    obtain ⟨i, τ, _, h2⟩ := hmemc g hg
    exact List.mem_of_getElem? h2
  have hlc : (T.map fun τ => φ.getD τ none).length = T.length := by simp
  have hlen' : φ'.length = news.length := by
    have := hsr.len
    simp only [List.length_append, upd_length hic, hlc, e3] at this
    omega
  have hsame : ∀ b, b < w.heap.size → some b ∉ (T.map fun τ => φ.getD τ none) → w'.heap[b]? = w.heap[b]? := fun b hb hF => hkeep.block b ⟨hb, hF⟩
  have hrl : (setRows s.rows T ic).length = s.rows.length := setRows_length _ _ _
  have hφl : ∀ t, t < s.rows.length → (φ ++ φ')[t]? = φ[t]? := fun t ht => List.getElem?_append_left (by rw [h.len]; exact ht)
  have hφr : ∀ j : Nat, (φ ++ φ')[s.rows.length + j]? = φ'[j]? := fun j => by
    rw [List.getElem?_append_right (by rw [h.len]; omega), h.len]; congr 1; omega
  have hcr : ∀ j : Nat, ((T.map fun τ => φ.getD τ none) ++ φ')[T.length + j]? = φ'[j]? := fun j => by
    rw [List.getElem?_append_right (by rw [hlc]; omega), hlc]; congr 1; omega
  have hcl : ∀ (i τ : Nat), T[i]? = some τ → ((T.map fun τ => φ.getD τ none) ++ φ')[i]? = φ[τ]? := fun i τ hτ => by
    rw [List.getElem?_append_left (by rw [hlc]; exact (List.getElem?_eq_some_iff.1 hτ).1), hφc i τ hτ]
  have hrow_new : ∀ j : Nat, (upd (sp.ins x) ic ++ news)[T.length + j]? = news[j]? := fun j => by
    rw [List.getElem?_append_right (by rw [upd_length hic, e3]; omega), upd_length hic, e3]; congr 1; omega
  have hdis2 : ∀ g, some g ∈ φ ++ φ' → ¬ D g := fun g hg => by
    rcases List.mem_append.1 hg with hg | hg
    · exact h.dis g hg
    · exact hsr.dis g (List.mem_append.2 (.inr hg))
  have hsplit : ∀ (t : Nat) (r' : Row), (s.after T ic news).rows[t]? = some r' → (t < s.rows.length ∧ (setRows s.rows T ic)[t]? = some r') ∨ ∃ (j : Nat) (n : Row), t = s.rows.length + j ∧ news[j]? = some n ∧ r' = { n with ver := s.ctr } := by
    intro t r' hr'
    simp only [St.after] at hr'
    by_cases ht : t < s.rows.length
    · rw [List.getElem?_append_left (by rw [hrl]; exact ht)] at hr'
      exact .inl ⟨ht, hr'⟩
    · rw [List.getElem?_append_right (by rw [hrl]; omega), hrl] at hr'
      simp only [List.getElem?_map, Option.map_eq_some_iff] at hr'
      obtain ⟨n, hn', rfl⟩ := hr'
      exact .inr ⟨t - s.rows.length, n, by omega, hn', rfl⟩
  -- all old readings stay
  have m : Mv w φ s.rows s.ctr w' (φ ++ φ') (s.after T ic news).rows (s.after T ic news).ctr := by
    refine ⟨hkeep.size, by simp [St.after], fun b hb hF => ⟨fun hm => ?_, hsame b hb (fun hm => hF (hmem b hm))⟩, fun t r' hr' hlt => ?_⟩
    · rcases List.mem_append.1 hm with hm | hm
      · exact hF hm
      · have := hfresh b hm; omega
    · rcases hsplit t r' hr' with ⟨ht, hr'⟩ | ⟨j, n, _, _, rfl⟩
      · obtain ⟨r0, a1, a2, a3, a4, a5⟩ := setRows_get T ic s.rows t r' hn hicT hr'
        refine ⟨r0, a1, a2, a3, a4, hφl t ht, fun g cur hg hc => ?_⟩
        by_cases htT : t ∈ T
        · obtain ⟨i, hiT⟩ := List.getElem?_of_mem htT
          exact hlow.bl i g cur r0.ety (by rw [e3]; exact (List.getElem?_eq_some_iff.1 hiT).1) (by rw [hφc i t hiT]; exact hg) hc
        · refine ⟨cur, ?_, rfl⟩
          rw [hsame g (lt_of_heap hc) (fun hm => ?_)]
          · exact hc
          · obtain ⟨i, τ, h1, h2⟩ := hmemc g hm
            exact htT (by rw [h.inj t τ g hg h2]; exact List.mem_of_getElem? h1)
      · exact absurd hlt (Nat.lt_irrefl _)
  refine ⟨v, _, φ ++ φ', s.after T ic news, rfl, ?_, ?_, ?_, fun g hg => ?_, ?_, rfl, hk⟩
  · -- the state
    refine h.mv m rfl (by simp [St.after, hrl, h.len, hlen']) (by have := h.lo; simp only [St.after, List.length_append, hrl]; omega) (fun t t' g hg hg' => ?_) (fun g hg => ?_) (fun r' hr' => ?_) (fun t r' ob hr' hob => ?_) (fun t r' hr' hz => ?_) hdis2
    · have key : ∀ (t : Nat) (g : Nat), (φ ++ φ')[t]? = some (some g) → (t < s.rows.length ∧ φ[t]? = some (some g) ∧ g < w.heap.size) ∨ ∃ j : Nat, t = s.rows.length + j ∧ φ'[j]? = some (some g) ∧ w.heap.size ≤ g := by
        intro t g hg
        by_cases ht : t < s.rows.length
        · rw [hφl t ht] at hg
          exact .inl ⟨ht, hg, h.lt g (List.mem_of_getElem? hg)⟩
        · have e : t = s.rows.length + (t - s.rows.length) := by omega
          rw [e, hφr] at hg
          exact .inr ⟨_, e, hg, hfresh g (List.mem_of_getElem? hg)⟩
      rcases key t g hg with ⟨_, a2, a3⟩ | ⟨j, rfl, a2, a3⟩ <;> rcases key t' g hg' with ⟨_, b2, b3⟩ | ⟨j', rfl, b2, b3⟩
      · exact h.inj t t' g a2 b2
      · omega
      · omega
      · have := hsr.inj (T.length + j) (T.length + j') g (by rw [hcr]; exact a2) (by rw [hcr]; exact b2)
        omega
    · rcases List.mem_append.1 hg with hg | hg
      · exact Nat.lt_of_lt_of_le (h.lt g hg) hkeep.size
      · exact hsr.lt g (List.mem_append.2 (.inr hg))
    · obtain ⟨t, ht⟩ := List.getElem?_of_mem hr'
      rcases hsplit t r' ht with ⟨ht, hr'⟩ | ⟨j, n, _, _, rfl⟩
      · obtain ⟨r0, a1, a2, a3, a4, a5⟩ := setRows_get T ic s.rows t r' hn hicT hr'
        have := h.ver r0 (List.mem_of_getElem? a1)
        simp only [St.after]
        omega
      · simp [St.after]
    · rcases hsplit t r' hr' with ⟨ht, hr'⟩ | ⟨j, n, rfl, hnj, rfl⟩
      · obtain ⟨r0, a1, a2, a3, a4, a5⟩ := setRows_get T ic s.rows t r' hn hicT hr'
        rw [hφl t ht] at hob
        rcases a5 with ⟨htT, rfl⟩ | ⟨i, c, hiT, hci, hcells⟩
        · refine (h.row t r' ob a1 hob).mv m fun g hg => ?_
          subst hg
          refine hsame g (h.lt g (List.mem_of_getElem? hob)) (fun hm => ?_)
          obtain ⟨i, τ, h1, h2⟩ := hmemc g hm
          exact htT (by rw [h.inj t τ g hob h2]; exact List.mem_of_getElem? h1)
        · obtain ⟨r1, c1, b1, b2⟩ := e4 i t hiT
          rw [a1] at b1; cases b1
          have hu : (upd (sp.ins x) ic ++ news)[i]? = some { r0 with ver := 0, cells := c } := by
            rw [List.getElem?_append_left (by rw [upd_length hic, e3]; exact (List.getElem?_eq_some_iff.1 hiT).1), upd_get b2 hci]
          have hrow := hsr.row i _ ob hu (by rw [hcl i t hiT]; exact hob)
          have hpc : protL c = true := hicp c (List.mem_of_getElem? hci)
          cases ob with
          | none => exact (by rw [hcells]; exact hrow : r'.cells = [])
          | some g =>
            obtain ⟨cur, d1, d2, d3⟩ := hrow
            refine ⟨cur, by rw [← a3]; exact d1, by rw [hcells]; exact d2, fun j u hu => ?_⟩
            rw [hcells] at hu
            obtain ⟨v', f1, f2, f3⟩ := d3 j u hu
            exact ⟨v', f1, f2, f3.reprot (protL_get hpc hu) hdis2⟩
      · rw [hφr] at hob
        obtain ⟨hn0, hpn⟩ := hnews n (List.mem_of_getElem? hnj)
        have hrow := hsr.row (T.length + j) n ob (by rw [hrow_new]; exact hnj) (by rw [hcr]; exact hob)
        cases ob with
        | none => exact hrow
        | some g =>
          obtain ⟨cur, d1, d2, d3⟩ := hrow
          refine ⟨cur, d1, d2, fun j' u hu => ?_⟩
          obtain ⟨v', f1, f2, f3⟩ := d3 j' u hu
          exact ⟨v', f1, f2, f3.reprot (protL_get hpn hu) hdis2⟩
    · rcases hsplit t r' hr' with ⟨ht, hr'⟩ | ⟨j, n, rfl, hnj, rfl⟩
      · obtain ⟨r0, a1, a2, a3, a4, a5⟩ := setRows_get T ic s.rows t r' hn hicT hr'
        rw [hφl t ht]
        exact h.sz0 t r0 a1 (by omega)
      · rw [hφr, ← hcr]
        exact hsr.sz0 (T.length + j) n (by rw [hrow_new]; exact hnj) hz
  · -- what is handed back
    have h0 := hsr.env 0 v r rfl rfl
    refine h0.reshift (m := T.length) (by rw [← e3]; exact hres) hdis2 (by simp [St.after]) (fun t r' ht hr' => ?_) rfl
    rcases hsplit _ r' hr' with ⟨hlt, _⟩ | ⟨j, n, hj, hnj, rfl⟩
    · omega
    · have hjt : j = t - T.length := by omega
      obtain ⟨hn0, hpn⟩ := hnews n (List.mem_of_getElem? hnj)
      refine ⟨n, ?_, hn0, rfl, rfl, ?_⟩
      · have := hrow_new j
        rw [show T.length + j = t by omega] at this
        rw [this]; exact hnj
      · have h1 := hφr j
        have h2 := hcr j
        rw [show T.length + j = t by omega] at h2
        rw [show t - T.length + s.rows.length = s.rows.length + j by omega, h1, h2]
  · exact ⟨hkeep.os, hkeep.tape, hkeep.output, hkeep.size, fun b hb => hsame b (hKl b hb) (fun hm => hKa b (hmem b hm) hb)⟩
  · rcases List.mem_append.1 hg with hg | hg
    · exact .inl hg
    · exact .inr (hfresh g hg)
  · refine ⟨fun i hi => hφl i (Nat.lt_of_lt_of_le hi h.lo), fun i g cur t hi hg hc => ?_⟩
    by_cases hiT : i ∈ T
    · obtain ⟨j, hj⟩ := List.getElem?_of_mem hiT
      exact hlow.bl j g cur t (by rw [e3]; exact (List.getElem?_eq_some_iff.1 hj).1) (by rw [hφc j i hj]; exact hg) hc
    · refine ⟨cur, ?_, rfl⟩
      rw [hsame g (lt_of_heap hc) (fun hm => ?_)]
      · exact hc
      · obtain ⟨j, τ, h1, h2⟩ := hmemc g hm
        exact hiT (by rw [h.inj i τ g hg h2]; exact List.mem_of_getElem? h1)

end
end Go.Am
