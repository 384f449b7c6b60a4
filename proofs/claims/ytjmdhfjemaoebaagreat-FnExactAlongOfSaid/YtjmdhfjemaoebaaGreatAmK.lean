import Derived.Test.YtjmdhfjemaoebaaGreatM01x4
namespace Go.Am
open Go.RowKit
variable {D : Nat → Prop}
theorem nodup_get : ∀ {T : List Nat} (_ : T.Nodup) {i j t : Nat} (_ : T[i]? = some t) (_ : T[j]? = some t), i = j
  | [], _, i, j, t, hi, _ => by simp at hi
  | x :: T, h, i, j, t, hi, hj => by
    rw [List.nodup_cons] at h
    cases i with
    | zero =>
      cases j with
      | zero => rfl
      | succ j =>
        simp at hi hj
        subst hi
        exact absurd (List.mem_of_getElem? hj) h.1
    | succ i =>
      cases j with
      | zero =>
        simp at hi hj
        subst hj
        exact absurd (List.mem_of_getElem? hi) h.1
      | succ j =>
        have := nodup_get (i := i) (j := j) (t := t) h.2 (by simpa using hi) (by simpa using hj)
        omega
theorem upd_get {ins : List Row} {ic : List (List AV)} {i : Nat} {r : Row} {c : List AV} (hr : ins[i]? = some r) (hc : ic[i]? = some c) : (upd ins ic)[i]? = some { r with cells := c } := by
  simp [upd, List.getElem?_zipWith, hr, hc]
theorem upd_length {ins : List Row} {ic : List (List AV)} (h : ic.length = ins.length) : (upd ins ic).length = ins.length := by simp [upd, h]
section
variable {P : Program} {w : World} {φ : Places} {s : St} {env : List Value} {K : Nat → Prop}
theorem callArgs_get {T : List Nat} : ∀ (args : List AV) (bs : List Bool) (us : List AV), callArgs s T bs args = some us → us.length = args.length ∧ ∀ (j : Nat) (u' : AV), us[j]? = some u' → ∃ b u, args[j]? = some u ∧ callArg s T b u = some u'
  | [], bs, us, h => by
    simp only [callArgs, Option.some.injEq] at h; subst h
    exact ⟨rfl, fun j u' hu => by simp at hu⟩
  | u :: args, bs, us, h => by
    simp only [callArgs, Option.bind_eq_some_iff, Option.map_eq_some_iff] at h
    obtain ⟨u1, h1, us', h2, rfl⟩ := h
    obtain ⟨a1, a2⟩ := callArgs_get args bs.tail us' h2
    refine ⟨by simp [a1], fun j u' hu => ?_⟩
    cases j with
    | zero => simp at hu; subst hu; exact ⟨_, u, rfl, h1⟩
    | succ j =>
      obtain ⟨b, u0, b1, b2⟩ := a2 j u' (by simpa using hu)
      exact ⟨b, u0, by simpa using b1, b2⟩
theorem SR.ren {T : List Nat} {ins : List Row} {φc : Places} (hdis : ∀ b, φc.O b → ¬ D b) (hφ : ∀ (i τ : Nat), T[i]? = some τ → φc.l[i]? = φ.l[τ]?)
    (hin : ∀ (i τ : Nat), T[i]? = some τ → ∃ (r : Row) (c : List AV), s.rows[τ]? = some r ∧ ins[i]? = some { r with ver := 0, cells := c }) {v : Value} {u u' : AV} (hv : VR D w φ s.rows s.ctr v u) (hr : u.ren s T = some u') : VR D w φc ins 1 v u' := by
  have hmt : ∀ τ, τ ∈ T → T[T.idxOf τ]? = some τ := fun τ hτ => by
    have := List.idxOf_lt_length_of_mem hτ
    rw [List.getElem?_eq_getElem this, List.getElem_idxOf]
  induction hv generalizing u' with
  | un v => simp only [AV.ren, Option.some.injEq] at hr; subst hr; exact .un v
  | int k n => simp only [AV.ren, Option.some.injEq] at hr; subst hr; exact .int k n
  | bool b => simp only [AV.ren, Option.some.injEq] at hr; subst hr; exact .bool b
  | str b => simp only [AV.ren, Option.some.injEq] at hr; subst hr; exact .str b
  | nil => simp only [AV.ren, Option.some.injEq] at hr; subst hr; exact .nil
  | sl0 A cap c hm =>
    simp only [AV.ren] at hr
    split at hr
    · simp only [Option.some.injEq] at hr; subst hr; exact .sl0 A cap c hm
    · cases hr
  | sl ad c n cap cells vs hs hF hD hlt hn hm hl hc' h1 hv ih =>
    simp only [AV.ren] at hr
    split at hr
    · rename_i hp
      simp only [Option.some.injEq] at hr
      subst hr
      exact (VR.sl (D := D) (w := w) (φ := φ) (rows := s.rows) (ctr := s.ctr) ad c n cap cells vs hs hF hD hlt hn hm hl hc' h1 hv).reprot (by simp [AV.prot, hp.1, hp.2]) hdis
    · cases hr
  | rd ad cells vs hs hF hlt hl hc' h1 hv ih => simp [AV.ren] at hr
  | agg cs cells hl h1 hv ih =>
    simp only [AV.ren, Option.map_eq_some_iff] at hr
    obtain ⟨cs', hcs, rfl⟩ := hr
    obtain ⟨a1, a2⟩ := renL_get hcs
    refine .agg cs cs' (by rw [a1]; exact hl) h1 fun j v u hv' hu => ?_
    obtain ⟨x, b1, b2⟩ := a2 j u hu
    exact ih j v x hv' b1 b2
  | tup vs us hl hv ih =>
    simp only [AV.ren, Option.map_eq_some_iff] at hr
    obtain ⟨cs', hcs, rfl⟩ := hr
    obtain ⟨a1, a2⟩ := renL_get hcs
    refine .tup vs cs' (by rw [a1]; exact hl) fun j v u hv' hu => ?_
    obtain ⟨x, b1, b2⟩ := a2 j u hu
    exact ih j v x hv' b1 b2
  | ref t ver off n v hlt h1 hx =>
    simp only [AV.ren] at hr
    split at hr
    case h_2 => cases hr
    rename_i r hrow
    split at hr
    case isFalse => cases hr
    rename_i hc
    simp only [Option.some.injEq] at hr
    subst hr
    have hi := hmt t hc.2
    obtain ⟨r2, c2, b1, b2⟩ := hin _ t hi
    rw [hrow] at b1; cases b1
    refine .ref _ _ _ _ _ Nat.zero_lt_one h1 fun r' hr' _ => ?_
    rw [b2] at hr'; cases hr'
    rcases hx r hrow hc.1 with ⟨e1, e2, e3, e4⟩ | ⟨g, A, cap, cur, e1, e2, e3, e4, e5, e6, e7, e8⟩
    · exact .inl ⟨by rw [hφ _ _ hi]; exact e1, e2, e3, e4⟩
    · exact .inr ⟨g, A, cap, cur, by rw [hφ _ _ hi]; exact e1, e2, e3, e4, e5, e6, e7, e8⟩
  | ptr t ver off v hlt h1 hx =>
    simp only [AV.ren] at hr
    split at hr
    case h_2 => cases hr
    rename_i r hrow
    split at hr
    case isFalse => cases hr
    rename_i hc
    simp only [Option.some.injEq] at hr
    subst hr
    have hi := hmt t hc.2
    obtain ⟨g, e1, e2⟩ := hx r hrow hc.1
    exact .ptr _ _ _ _ Nat.zero_lt_one h1 fun r' hr' _ => ⟨g, by rw [hφ _ _ hi]; exact e1, e2⟩
theorem CV.ren {T : List Nat} {ins : List Row} {φc : Places} (hdis : ∀ b, φc.O b → ¬ D b) (hφ : ∀ (i τ : Nat), T[i]? = some τ → φc.l[i]? = φ.l[τ]?)
    (hin : ∀ (i τ : Nat), T[i]? = some τ → ∃ (r : Row) (c : List AV), s.rows[τ]? = some r ∧ ins[i]? = some { r with ver := 0, cells := c }) {v : Value} {u : AV} {F : Foot} (hv : CV D w φ s.rows s.ctr v u F) : ∀ {u' : AV}, u.ren s T = some u' → CV D w φc ins 1 v u' F := by
  induction hv with
  | vr v u h => intro u' hr; exact .vr v u' (SR.ren hdis hφ hin h hr)
  | own0 e z hz =>
    intro u' hr
    simp only [AV.ren, renL, Option.map_some, Option.some.injEq] at hr
    subst hr
    exact .own0 e z hz
  | own e z n g cap cur cells vs F hz hg hs hn hm hl hv hF hc ih =>
    intro u' hr
    simp only [AV.ren, Option.map_eq_some_iff] at hr
    obtain ⟨cs', hcs, rfl⟩ := hr
    obtain ⟨a1, a2⟩ := renL_get hcs
    refine .own e z n g cap cur cs' vs F hz hg hs hn hm (by rw [a1]; exact hl) (fun j u hu => ?_) (fun j hj => hF j ?_) (fun j u hu => ?_)
    · obtain ⟨x, b1, b2⟩ := a2 j u hu
      exact hv j x b1
    · rw [List.getElem?_eq_none_iff] at hj ⊢
      omega
    · obtain ⟨x, b1, b2⟩ := a2 j u hu
      exact ih j x b1 b2
def Places.sub (φ : Places) (ω : Nat → Nat → Foot) (T : List Nat) : Places := ⟨T.map fun τ => φ.l.getD τ none, fun b => ∃ τ, τ ∈ T ∧ (φ.l[τ]? = some (some b) ∨ ∃ j p, ω τ j p b)⟩
theorem SR.enter (h : SR D w φ env s) {ω : Nat → Nat → Foot} (hne : Nest D w φ s.rows s.ctr ω) {args us : List AV} {vs : Array Value} {bs : List Bool} {T : List Nat} {ins : List Row} (hn : T.Nodup) (ha : callArgs s T bs args = some us) (hi : insOf s T T = some ins)
    (hl : vs.size = args.length) (hv : ∀ (j : Nat) (v : Value) (u : AV), vs[j]? = some v → args[j]? = some u → VR D w φ s.rows s.ctr v u) :
    SR D w (φ.sub ω T) vs.toList ⟨us, ins, 1, ins.length⟩ ∧ (∀ r ∈ ins, r.ver = 0) ∧ ins.length = T.length ∧ (∀ (i τ : Nat), T[i]? = some τ → ∃ (r : Row) (c : List AV), s.rows[τ]? = some r ∧ ins[i]? = some { r with ver := 0, cells := c }) := by
  obtain ⟨i1, i2⟩ := mapM_get hi
  have hin : ∀ (i : Nat) (r' : Row), ins[i]? = some r' → ∃ τ r c, T[i]? = some τ ∧ s.rows[τ]? = some r ∧ renL s T r.cells = some c ∧ r' = { r with ver := 0, cells := c } := by
    intro i r' hr'
    obtain ⟨τ, hτ, hb⟩ := i2 i r' hr'
    simp only [Option.bind_eq_some_iff, Option.map_eq_some_iff] at hb
    obtain ⟨r, hr, c, hc, rfl⟩ := hb
    exact ⟨τ, r, c, hτ, hr, hc, rfl⟩
  have hTin : ∀ (i τ : Nat), T[i]? = some τ → ∃ (r : Row) (c : List AV), s.rows[τ]? = some r ∧ ins[i]? = some { r with ver := 0, cells := c } := by
    intro i τ hτ
    have hlt : i < ins.length := by rw [i1]; exact (List.getElem?_eq_some_iff.1 hτ).1
    obtain ⟨τ', r, c, b1, b2, b3, b4⟩ := hin i _ (List.getElem?_eq_getElem hlt)
    rw [hτ] at b1; cases b1
    exact ⟨r, c, b2, by rw [← b4]; exact List.getElem?_eq_getElem hlt⟩
  have hφ : ∀ (i : Nat) (ob : Option Nat), (φ.sub ω T).l[i]? = some ob → ∃ τ, T[i]? = some τ ∧ φ.l[τ]? = some ob := by
    intro i ob hob
    simp only [Places.sub, List.getElem?_map, Option.map_eq_some_iff] at hob
    obtain ⟨τ, hτ, rfl⟩ := hob
    obtain ⟨r, c, hr, _⟩ := hTin i τ hτ
    have : τ < φ.l.length := by rw [h.len]; exact (List.getElem?_eq_some_iff.1 hr).1
    exact ⟨τ, hτ, by simp [List.getD, List.getElem?_eq_getElem this]⟩
  have hφ' : ∀ (i τ : Nat), T[i]? = some τ → (φ.sub ω T).l[i]? = φ.l[τ]? := by
    intro i τ hτ
    obtain ⟨r, c, hr, _⟩ := hTin i τ hτ
    have : τ < φ.l.length := by rw [h.len]; exact (List.getElem?_eq_some_iff.1 hr).1
    simp [Places.sub, List.getElem?_map, hτ, List.getD, List.getElem?_eq_getElem this]
  have hOO : ∀ b, (φ.sub ω T).O b → φ.O b := fun b hb => by
    obtain ⟨τ, _, h1 | ⟨j, p, h1⟩⟩ := hb
    · exact h.occ b (List.mem_of_getElem? h1)
    · exact hne.ap.oc τ j p b h1
  have hdis : ∀ b, (φ.sub ω T).O b → ¬ D b := fun b hb => h.dis b (hOO b hb)
  have hsub : ∀ b, b < w.heap.size → ¬ φ.O b → ¬ (φ.sub ω T).O b := fun b _ hF hm => hF (hOO b hm)
  have hvis : ∀ τ g, φ.l[τ]? = some (some g) → τ ∉ T → ¬ (φ.sub ω T).O g := by
    rintro τ g hg hτ ⟨τ', h1, h2 | ⟨j, p, h2⟩⟩
    · exact hτ (by rw [h.inj τ τ' g hg h2]; exact h1)
    · exact hne.ap.nf τ' j p g h2 (List.mem_of_getElem? hg)
  have hnest : ∀ τ j p b, ω τ j p b → τ ∉ T → ¬ (φ.sub ω T).O b := by
    rintro τ j p b hb hτ ⟨τ', h1, h2 | ⟨j', p', h2⟩⟩
    · exact hne.ap.nf τ j p b hb (List.mem_of_getElem? h2)
    · exact hτ (by rw [(hne.ap.uq _ _ _ _ _ _ b hb h2).1]; exact h1)
  obtain ⟨c1, c2⟩ := callArgs_get (s := s) (T := T) args bs us ha
  refine ⟨⟨hdis, h.dlt, by simp [Places.sub, i1], Nat.le_refl _, fun i j g hi' hj' => ?_, fun g hg => h.lt g (hOO g hg), fun g hg => ?_, fun r hr => ?_,
    ⟨fun i => match T[i]? with | some τ => ω τ | none => fun _ => noFoot, fun i r ob hr hob => ?_, fun i hi' j => ?_, ⟨fun i i' j j' p p' b h1 h2 => ?_, fun i j p b h1 hm => ?_, fun i j p b h1 => ?_⟩⟩, fun i r hr hz => ?_, by simp [c1, hl], fun j v u hv' hu => ?_⟩, fun r hr => ?_, i1, hTin⟩
  · obtain ⟨τ, a1, a2⟩ := hφ i _ hi'
    obtain ⟨τ', b1, b2⟩ := hφ j _ hj'
    have := h.inj τ τ' g a2 b2
    subst this
    exact nodup_get hn a1 b1
  · obtain ⟨i, hi'⟩ := List.getElem?_of_mem hg
    obtain ⟨τ, a1, a2⟩ := hφ i _ hi'
    exact ⟨τ, List.mem_of_getElem? a1, .inl a2⟩
  · obtain ⟨i, hi'⟩ := List.getElem?_of_mem hr
    obtain ⟨τ, r0, c, b1, b2, b3, rfl⟩ := hin i r hi'
    exact Nat.zero_lt_one
  · obtain ⟨τ, r0, c, b1, b2, b3, rfl⟩ := hin i r hr
    obtain ⟨τ', a1, a2⟩ := hφ i _ hob
    rw [b1] at a1; cases a1
    simp only [b1]
    have hrow := hne.row τ r0 ob b2 a2
    obtain ⟨m1, m2⟩ := renL_get b3
    cases ob with
    | none =>
      obtain ⟨h0, h0'⟩ := hrow
      refine ⟨?_, h0'⟩
      rw [h0] at m1
      exact List.eq_nil_of_length_eq_zero m1
    | some g =>
      obtain ⟨cur, d1, d2, d3, d4⟩ := hrow
      refine ⟨cur, d1, by simp only; omega, fun j hj => d3 j (by rw [List.getElem?_eq_none_iff] at hj ⊢; simp only at hj; omega), fun j u hu => ?_⟩
      obtain ⟨a, ha', hg⟩ := m2 j u hu
      obtain ⟨v, e1, e2, e3⟩ := d4 j a ha'
      exact ⟨v, e1, e2, e3.ren hdis hφ' hTin hg⟩
  · have : T[i]? = none := by
      simp only at hi'
      rw [List.getElem?_eq_none_iff] at hi' ⊢
      omega
    simp only [this]
  · cases e1 : T[i]? with
    | none => simp only [e1] at h1; exact h1.elim
    | some τ =>
      cases e2 : T[i']? with
      | none => simp only [e2] at h2; exact h2.elim
      | some τ' =>
        simp only [e1] at h1
        simp only [e2] at h2
        obtain ⟨x1, x2, x3⟩ := hne.ap.uq _ _ _ _ _ _ b h1 h2
        subst x1
        exact ⟨nodup_get hn e1 e2, x2, x3⟩
  · cases e1 : T[i]? with
    | none => simp only [e1] at h1; exact h1.elim
    | some τ =>
      simp only [e1] at h1
      obtain ⟨i', hi'⟩ := List.getElem?_of_mem hm
      obtain ⟨τ', a1, a2⟩ := hφ i' _ hi'
      exact hne.ap.nf τ j p b h1 (List.mem_of_getElem? a2)
  · cases e1 : T[i]? with
    | none => simp only [e1] at h1; exact h1.elim
    | some τ =>
      simp only [e1] at h1
      exact ⟨τ, List.mem_of_getElem? e1, .inr ⟨j, p, h1⟩⟩
  · obtain ⟨τ, r0, c, b1, b2, b3, rfl⟩ := hin i r hr
    have := h.sz0 τ r0 b2 hz
    rw [hφ' i τ b1]; exact this
  · obtain ⟨b, u0, a1, a2⟩ := c2 j u hu
    have hv0 := hv j v u0 (by simpa using hv') a1
    unfold callArg at a2
    split at a2
    · exact SR.ren hdis hφ' hTin hv0 a2
    · split at a2
      · exact SR.ren hdis hφ' hTin hv0 a2
      · exact (h.tree hne hsub hvis hnest 4).1 hv0 a2
  · obtain ⟨i, hi'⟩ := List.getElem?_of_mem hr
    obtain ⟨τ, r0, c, b1, b2, b3, rfl⟩ := hin i r hi'
    rfl
theorem verOf_lt (h : SR D w φ env s) (τ : Nat) : verOf s τ < s.ctr + 1 := by
  unfold verOf
  split
  · rename_i r hr
    have := h.ver r (List.mem_of_getElem? hr)
    omega
  · omega
theorem backV_lt (h : SR D w φ env s) (T : List Nat) (t : Nat) : backV s T t < s.ctr + 1 := by
  unfold backV
  split
  · exact verOf_lt h _
  · omega
theorem aCallT_ok {T : List Nat} (h : SR D w φ env s) (hKa : ∀ g, φ.O g → ¬ K g) (hKl : ∀ b, K b → b < w.heap.size) {f : FuncId} {args : List AV} {vs : Array Value} {k : AV → St → Prop} (hl : vs.size = args.length)
    (hv : ∀ (j : Nat) (v : Value) (u : AV), vs[j]? = some v → args[j]? = some u → VR D w φ s.rows s.ctr v u) (hk : aCallT P f s T args k) :
    Enters P f ∧ Calls P f vs w fun e w' => ∃ (v : Value) (u : AV) (φ' : Places) (s' : St), e = .returned v ∧ SR D w' φ' env s' ∧ VR D w' φ' s'.rows s'.ctr v u ∧ Keeps K w w' ∧ (∀ g, φ'.O g → φ.O g ∨ w.heap.size ≤ g) ∧ Lows s.low w φ w' φ' ∧ s'.low = s.low ∧ k u s' ∧ (T = [] → ∀ b : Nat, b < w.heap.size → w'.heap[b]? = w.heap[b]?) := by
  obtain ⟨sp, hs, us, ins, hn, ha, hi, x, rfl, rfl, hpre, hk⟩ := hk
  obtain ⟨hent, hcall⟩ := hs
  obtain ⟨ω, hne⟩ := h.nest
  obtain ⟨e1, e2, e3, e4⟩ := h.enter hne hn ha hi hl hv
  refine ⟨hent, (hcall x hpre D w vs _ e1 e2).mono ?_⟩
  rintro e w' ⟨v, r, ic, news, φ', rfl, hpost, hic, hicp, hnews, hres, hkeep, hsr, hlow, hfresh⟩
  have hicT : ic.length = T.length := hic.trans e3
  have hk := hk r ic news hpost hicT
  obtain ⟨ω', hne'⟩ := hsr.nest
  have hTlt : ∀ (i τ : Nat), T[i]? = some τ → i < T.length ∧ τ < s.rows.length := fun i τ hτ => by
    obtain ⟨r, c, hr, _⟩ := e4 i τ hτ
    exact ⟨(List.getElem?_eq_some_iff.1 hτ).1, (List.getElem?_eq_some_iff.1 hr).1⟩
  have hφc : ∀ (i τ : Nat), T[i]? = some τ → (φ.sub ω T).l[i]? = φ.l[τ]? := by
    intro i τ hτ
    have : τ < φ.l.length := by rw [h.len]; exact (hTlt i τ hτ).2
    simp [Places.sub, List.getElem?_map, hτ, List.getD, List.getElem?_eq_getElem this]
  have hlc : (φ.sub ω T).l.length = T.length := by simp [Places.sub]
  have hφ'T : ∀ (i τ : Nat), T[i]? = some τ → φ'.l[i]? = φ.l[τ]? := fun i τ hτ => by
    rw [hlow.pl i (by rw [e3]; exact (hTlt i τ hτ).1), hφc i τ hτ]
  have hlen' : φ'.l.length = T.length + news.length := by
    have := hsr.len
    simp only [List.length_append, upd_length hic, e3] at this
    exact this
  have hOc : ∀ b, (φ.sub ω T).O b → φ.O b := fun b hb => by
    obtain ⟨τ, _, h1 | ⟨j, p, h1⟩⟩ := hb
    · exact h.occ b (List.mem_of_getElem? h1)
    · exact hne.ap.oc τ j p b h1
  have hvis : ∀ (τ g : Nat), φ.l[τ]? = some (some g) → τ ∉ T → ¬ (φ.sub ω T).O g := by
    rintro τ g hg hτ ⟨τ', h1, h2 | ⟨j, p, h2⟩⟩
    · exact hτ (by rw [h.inj τ τ' g hg h2]; exact h1)
    · exact hne.ap.nf τ' j p g h2 (List.mem_of_getElem? hg)
  have hnv : ∀ (τ j : Nat) (p : List Nat) (b : Nat), ω τ j p b → τ ∉ T → ¬ (φ.sub ω T).O b := by
    rintro τ j p b hb hτ ⟨τ', h1, h2 | ⟨j', p', h2⟩⟩
    · exact hne.ap.nf τ j p b hb (List.mem_of_getElem? h2)
    · exact hτ (by rw [(hne.ap.uq _ _ _ _ _ _ b hb h2).1]; exact h1)
  have hold : ∀ b, b < w.heap.size → ¬ (φ.sub ω T).O b → ¬ φ'.O b := fun b hb hF hm => by
    rcases hfresh b hm with h1 | h1
    · exact hF h1
    · omega
  have hsame : ∀ b, b < w.heap.size → ¬ (φ.sub ω T).O b → w'.heap[b]? = w.heap[b]? := fun b hb hF => hkeep.block b ⟨hb, hF⟩
  have hrl : ∀ ic, (setRows s.rows T ic).length = s.rows.length := fun ic => setRows_length _ _ _
  have hbl : (ic.map (backL s T)).length = T.length := by rw [List.length_map]; exact hicT
  let ψ : Places := ⟨φ.l ++ φ'.l.drop T.length, fun b => φ.O b ∨ φ'.O b⟩
  have hψl : ∀ t, t < s.rows.length → ψ.l[t]? = φ.l[t]? := fun t ht => List.getElem?_append_left (by rw [h.len]; exact ht)
  have hψr : ∀ j : Nat, ψ.l[s.rows.length + j]? = φ'.l[T.length + j]? := fun j => by
    show (φ.l ++ φ'.l.drop T.length)[s.rows.length + j]? = _
    rw [List.getElem?_append_right (by rw [h.len]; omega), h.len, List.getElem?_drop]; congr 1; omega
  have hrow_new : ∀ j : Nat, (upd (sp.ins x) ic ++ news)[T.length + j]? = news[j]? := fun j => by
    rw [List.getElem?_append_right (by rw [upd_length hic, e3]; omega), upd_length hic, e3]; congr 1; omega
  have hdis2 : ∀ g, ψ.O g → ¬ D g := fun g hg => by
    rcases hg with hg | hg
    · exact h.dis g hg
    · exact hsr.dis g hg
  have hnewlen : (s.news T news).length = news.length := by simp [St.news]
  have hnewget : ∀ j : Nat, (s.news T news)[j]? = (news[j]?).map fun n => ⟨s.ctr, n.ety, n.size, backL s T n.cells⟩ := fun j => by simp [St.news]
  have hsplit : ∀ (t : Nat) (r' : Row), (s.after T ic news).rows[t]? = some r' → (t < s.rows.length ∧ (setRows s.rows T (ic.map (backL s T)))[t]? = some r') ∨ ∃ (j : Nat) (n : Row), t = s.rows.length + j ∧ news[j]? = some n ∧ r' = ⟨s.ctr, n.ety, n.size, backL s T n.cells⟩ := by
    intro t r' hr'
    simp only [St.after] at hr'
    by_cases ht : t < s.rows.length
    · rw [List.getElem?_append_left (by rw [hrl]; exact ht)] at hr'
      exact .inl ⟨ht, hr'⟩
    · rw [List.getElem?_append_right (by rw [hrl]; omega), hrl, hnewget, Option.map_eq_some_iff] at hr'
      obtain ⟨n, hn', rfl⟩ := hr'
      exact .inr ⟨t - s.rows.length, n, by omega, hn', rfl⟩
  have m : Mv w φ s.rows s.ctr w' ψ (s.after T ic news).rows (s.after T ic news).ctr := by
    refine ⟨hkeep.size, by simp [St.after], fun b hb hF => ⟨fun hm => ?_, hsame b hb (fun hm => hF (hOc b hm))⟩, fun t r' hr' hlt => ?_⟩
    · rcases hm with hm | hm
      · exact hF hm
      · exact hold b hb (fun hm => hF (hOc b hm)) hm
    · rcases hsplit t r' hr' with ⟨ht, hr'⟩ | ⟨j, n, _, _, rfl⟩
      · obtain ⟨r0, a1, a2, a3, a4, a5⟩ := setRows_get T _ s.rows t r' hn hbl hr'
        refine ⟨r0, a1, a2, a3, a4, hψl t ht, fun g cur hg hc => ?_⟩
        by_cases htT : t ∈ T
        · obtain ⟨i, hiT⟩ := List.getElem?_of_mem htT
          exact hlow.bl i g cur r0.ety (by rw [e3]; exact (hTlt i t hiT).1) (by rw [hφc i t hiT]; exact hg) hc
        · exact ⟨cur, by rw [hsame g (lt_of_heap hc) (hvis t g hg htT)]; exact hc, rfl⟩
      · exact absurd hlt (Nat.lt_irrefl _)
  have hverT : ∀ (i τ : Nat) (r' : Row), T[i]? = some τ → (s.after T ic news).rows[τ]? = some r' → ∃ (r0 : Row) (c : List AV), s.rows[τ]? = some r0 ∧ r'.ver = r0.ver ∧ r'.ety = r0.ety ∧ r'.size = r0.size ∧ ic[i]? = some c ∧ r'.cells = backL s T c ∧ (upd (sp.ins x) ic ++ news)[i]? = some { r0 with ver := 0, cells := c } := by
    intro i τ r' hτ hr'
    rcases hsplit τ r' hr' with ⟨ht, hr'⟩ | ⟨j, n, hj, _, _⟩
    · obtain ⟨r0, a1, a2, a3, a4, a5⟩ := setRows_get T _ s.rows τ r' hn hbl hr'
      rcases a5 with ⟨htT, _⟩ | ⟨i', c', hiT, hci, hcells⟩
      · exact absurd (List.mem_of_getElem? hτ) htT
      · have := nodup_get hn hτ hiT
        subst this
        rw [List.getElem?_map, Option.map_eq_some_iff] at hci
        obtain ⟨c, hci, rfl⟩ := hci
        obtain ⟨r1, c1, b1, b2⟩ := e4 i τ hτ
        rw [a1] at b1; cases b1
        refine ⟨r0, c, a1, a2.symm, a3.symm, a4.symm, hci, hcells, ?_⟩
        rw [List.getElem?_append_left (by rw [upd_length hic, e3]; exact (hTlt i τ hτ).1), upd_get b2 hci]
    · have := (hTlt i τ hτ).2; omega
  have hback : BackRows s T (upd (sp.ins x) ic ++ news) (s.after T ic news).rows φ' ψ := by
    intro t r' hr' hver
    by_cases ht : t < T.length
    · have hτ : T[t]? = some (T.getD t 0) := by simp [List.getD, List.getElem?_eq_getElem ht]
      have hb : backT s T t = T.getD t 0 := if_pos ht
      rw [hb] at hr' ⊢
      obtain ⟨r0, c, a1, a2, a3, a4, a5, a6, a7⟩ := hverT t _ r' hτ hr'
      exact ⟨_, a7, rfl, a3.symm, a4.symm, by rw [hψl _ (hTlt t _ hτ).2, hφ'T t _ hτ]⟩
    · have hb : backT s T t = s.rows.length + (t - T.length) := by unfold backT; rw [if_neg ht]; omega
      rw [hb] at hr' ⊢
      rcases hsplit _ r' hr' with ⟨hlt, _⟩ | ⟨j, n, hj, hnj, rfl⟩
      · omega
      · have hjt : j = t - T.length := by omega
        subst hjt
        refine ⟨n, ?_, (hnews n (List.mem_of_getElem? hnj)).1, rfl, rfl, ?_⟩
        · have := hrow_new (t - T.length)
          rw [show T.length + (t - T.length) = t by omega] at this
          rw [this]; exact hnj
        · rw [hψr, show T.length + (t - T.length) = t by omega]
  have hbc : ∀ t, backV s T t < (s.after T ic news).ctr := fun t => backV_lt h T t
  refine ⟨v, _, ψ, s.after T ic news, rfl, ?_, ?_, ?_, fun g hg => ?_, ?_, rfl, hk, fun hT b hb => hsame b hb fun ⟨τ, hτ, _⟩ => by subst hT; simp at hτ⟩
  · -- the state
    have hlt2 : ∀ g, ψ.O g → g < w'.heap.size := fun g hg => by
      rcases hg with hg | hg
      · exact Nat.lt_of_lt_of_le (h.lt g hg) hkeep.size
      · exact hsr.lt g hg
    have hsep : ∀ b, φ'.O b → ∀ t j p, ω t j p b → t ∈ T := fun b hb t j p hω => by
      refine Classical.byContradiction fun hT => ?_
      exact hold b (h.lt b (hne.ap.oc t j p b hω)) (hnv t j p b hω hT) hb
    have hsepv : ∀ b, φ'.O b → ∀ t : Nat, φ.l[t]? = some (some b) → t ∈ T := fun b hb t ht => by
      refine Classical.byContradiction fun hT => ?_
      exact hold b (h.lt b (h.occ b (List.mem_of_getElem? ht))) (hvis t b ht hT) hb
    let src : Nat → Option Nat := fun t => if t < s.rows.length then (if t ∈ T then some (T.idxOf t) else none) else some (t - s.rows.length + T.length)
    have hidx : ∀ t, t ∈ T → T[T.idxOf t]? = some t := fun t ht => by
      have := List.idxOf_lt_length_of_mem ht
      rw [List.getElem?_eq_getElem this, List.getElem_idxOf]
    have hsrc : ∀ t t' i, src t = some i → src t' = some i → t = t' := fun t t' i h1 h2 => by
      simp only [src] at h1 h2
      split at h1
      · split at h1
        · rename_i hT
          cases h1
          have hi1 := hidx t hT
          split at h2
          · split at h2
            · rename_i hT'
              have := hidx t' hT'
              simp only [Option.some.injEq] at h2
              rw [h2, hi1] at this
              exact Option.some.inj this
            · cases h2
          · have := List.idxOf_lt_length_of_mem hT
            simp only [Option.some.injEq] at h2
            omega
        · cases h1
      · cases h1
        split at h2
        · split at h2
          · rename_i hT'
            have := List.idxOf_lt_length_of_mem hT'
            simp only [Option.some.injEq] at h2
            omega
          · cases h2
        · simp only [Option.some.injEq] at h2
          omega
    refine h.mv m rfl (by simp [St.after, hrl, h.len, hlen', ψ, hnewlen]) (by have := h.lo; simp only [St.after, List.length_append, hrl]; omega) (fun t t' g hg hg' => ?_) hlt2 (fun g hg => ?_) (fun r' hr' => ?_)
      ⟨fun t => match src t with | some i => ω' i | none => ω t, fun t r' ob hr' hob => ?_, fun t ht j => ?_, ⟨fun t t' j j' p p' b h1 h2 => ?_, fun t j p b h1 hm => ?_, fun t j p b h1 => ?_⟩⟩ (fun t r' hr' hz => ?_) hdis2
    · have key : ∀ (t g : Nat), ψ.l[t]? = some (some g) → (t < s.rows.length ∧ φ.l[t]? = some (some g)) ∨ ∃ j : Nat, t = s.rows.length + j ∧ φ'.l[T.length + j]? = some (some g) := by
        intro t g hg
        by_cases ht : t < s.rows.length
        · rw [hψl t ht] at hg
          exact .inl ⟨ht, hg⟩
        · have e : t = s.rows.length + (t - s.rows.length) := by omega
          rw [e, hψr] at hg
          exact .inr ⟨_, e, hg⟩
      have mix : ∀ (t j g : Nat), t < s.rows.length → φ.l[t]? = some (some g) → φ'.l[T.length + j]? = some (some g) → False := by
        intro t j g ht h1 h2
        have hT := hsepv g (hsr.occ g (List.mem_of_getElem? h2)) t h1
        have h3 := hφ'T _ _ (hidx t hT)
        rw [h1] at h3
        have := hsr.inj _ _ g h3 h2
        have := List.idxOf_lt_length_of_mem hT
        omega
      rcases key t g hg with ⟨a1, a2⟩ | ⟨j, rfl, a2⟩ <;> rcases key t' g hg' with ⟨b1, b2⟩ | ⟨j', rfl, b2⟩
      · exact h.inj t t' g a2 b2
      · exact (mix t j' g a1 a2 b2).elim
      · exact (mix t' j g b1 b2 a2).elim
      · have := hsr.inj (T.length + j) (T.length + j') g a2 b2
        omega
    · rcases List.mem_append.1 hg with hg | hg
      · exact .inl (h.occ g hg)
      · exact .inr (hsr.occ g (List.mem_of_mem_drop hg))
    · obtain ⟨t, ht⟩ := List.getElem?_of_mem hr'
      rcases hsplit t r' ht with ⟨ht, hr'⟩ | ⟨j, n, _, _, rfl⟩
      · obtain ⟨r0, a1, a2, a3, a4, a5⟩ := setRows_get T _ s.rows t r' hn hbl hr'
        have := h.ver r0 (List.mem_of_getElem? a1)
        simp only [St.after]
        omega
      · simp [St.after]
    · have hr'0 := hr'
      rcases hsplit t r' hr' with ⟨ht, hr'⟩ | ⟨j, n, rfl, hnj, rfl⟩
      · rw [hψl t ht] at hob
        by_cases htT : t ∈ T
        · have hs' : src t = some (T.idxOf t) := by simp [src, ht, htT]
          simp only [hs']
          have hiT := hidx t htT
          obtain ⟨r0, c, a1, a2, a3, a4, a5, a6, a7⟩ := hverT _ t r' hiT hr'0
          have hrow := hne'.row _ _ ob a7 (by rw [hφ'T _ _ hiT]; exact hob)
          have hpc : resOkL c = true := hicp c (List.mem_of_getElem? a5)
          cases ob with
          | none =>
            refine ⟨?_, hrow.2⟩
            have hc0 : c = [] := hrow.1
            rw [a6, hc0]; rfl
          | some g =>
            obtain ⟨cur, d1, d2, d3, d4⟩ := hrow
            simp only at d1 d2 d3 d4
            refine ⟨cur, by rw [a3]; exact d1, by rw [a6, backL_length]; exact d2, fun j hj => d3 j (by rw [a6, backL_get, Option.map_eq_none_iff] at hj; exact hj), fun j u hu => ?_⟩
            rw [a6, backL_get, Option.map_eq_some_iff] at hu
            obtain ⟨u', hu', rfl⟩ := hu
            obtain ⟨v', f1, f2, f3⟩ := d4 j u' hu'
            exact ⟨v', f1, f2, f3.back (resOkL_get hpc hu') hdis2 hbc hback rfl⟩
        · have hs' : src t = none := by simp [src, ht, htT]
          simp only [hs']
          obtain ⟨r0, a1, a2, a3, a4, a5⟩ := setRows_get T _ s.rows t r' hn hbl hr'
          rcases a5 with ⟨_, rfl⟩ | ⟨i, c, hiT, _, _⟩
          · exact (hne.row t r' ob a1 hob).mv m (fun g hg => hsame g (h.lt g (h.occ g (List.mem_of_getElem? (by rw [hob, hg])))) (hvis t g (by rw [hob, hg]) htT)) (fun j p b hb => hsame b (h.lt b (hne.ap.oc t j p b hb)) (hnv t j p b hb htT))
          · exact absurd (List.mem_of_getElem? hiT) htT
      · have hs' : src (s.rows.length + j) = some (T.length + j) := by
          simp only [src]
          rw [if_neg (by omega)]; congr 1; omega
        simp only [hs']
        rw [hψr] at hob
        obtain ⟨hn0, hpn⟩ := hnews n (List.mem_of_getElem? hnj)
        have hrow := hne'.row (T.length + j) n ob (by rw [hrow_new]; exact hnj) hob
        cases ob with
        | none =>
          refine ⟨?_, hrow.2⟩
          have hc0 : n.cells = [] := hrow.1
          simp only [hc0]; rfl
        | some g =>
          obtain ⟨cur, d1, d2, d3, d4⟩ := hrow
          refine ⟨cur, d1, by simp only [backL_length]; exact d2, fun j hj => d3 j (by simp only [backL_get, Option.map_eq_none_iff] at hj; exact hj), fun j' u hu => ?_⟩
          simp only [backL_get, Option.map_eq_some_iff] at hu
          obtain ⟨u', hu', rfl⟩ := hu
          obtain ⟨v', f1, f2, f3⟩ := d4 j' u' hu'
          exact ⟨v', f1, f2, f3.back (resOkL_get hpn hu') hdis2 hbc hback rfl⟩
    · have hnl : s.rows.length + news.length ≤ t := by
        rw [List.getElem?_eq_none_iff] at ht
        simpa [St.after, hrl, hnewlen] using ht
      have hs' : src t = some (t - s.rows.length + T.length) := by
        simp only [src]
        rw [if_neg (by omega)]
      simp only [hs']
      refine hne'.out _ (List.getElem?_eq_none ?_) j
      simp only [List.length_append, upd_length hic, e3]
      omega
    · cases s1 : src t with
      | none =>
        simp only [s1] at h1
        cases s2 : src t' with
        | none => simp only [s2] at h2; exact hne.ap.uq _ _ _ _ _ _ b h1 h2
        | some i' =>
          simp only [s2] at h2
          exfalso
          have hT := hsep b (hne'.ap.oc _ _ _ _ h2) t _ _ h1
          have htl : t < s.rows.length := (hTlt _ t (hidx t hT)).2
          simp only [src] at s1
          rw [if_pos htl, if_pos hT] at s1; cases s1
      | some i =>
        simp only [s1] at h1
        cases s2 : src t' with
        | none =>
          simp only [s2] at h2
          exfalso
          have hT := hsep b (hne'.ap.oc _ _ _ _ h1) t' _ _ h2
          have htl : t' < s.rows.length := (hTlt _ t' (hidx t' hT)).2
          simp only [src] at s2
          rw [if_pos htl, if_pos hT] at s2; cases s2
        | some i' =>
          simp only [s2] at h2
          obtain ⟨x1, x2, x3⟩ := hne'.ap.uq _ _ _ _ _ _ b h1 h2
          subst x1
          exact ⟨hsrc t t' i s1 s2, x2, x3⟩
    · cases s1 : src t with
      | none =>
        simp only [s1] at h1
        have htT : t ∉ T := fun hT => by
          have htl : t < s.rows.length := (hTlt _ t (hidx t hT)).2
          simp only [src] at s1
          rw [if_pos htl, if_pos hT] at s1; cases s1
        rcases List.mem_append.1 hm with hm | hm
        · exact hne.ap.nf t j p b h1 hm
        · exact htT (hsep b (hsr.occ b (List.mem_of_mem_drop hm)) t j p h1)
      | some i =>
        simp only [s1] at h1
        rcases List.mem_append.1 hm with hm | hm
        · obtain ⟨τ, hτ⟩ := List.getElem?_of_mem hm
          have hT := hsepv b (hne'.ap.oc _ _ _ _ h1) τ hτ
          have h3 := hφ'T _ _ (hidx τ hT)
          rw [hτ] at h3
          exact hne'.ap.nf _ _ _ _ h1 (List.mem_of_getElem? h3)
        · exact hne'.ap.nf _ _ _ _ h1 (List.mem_of_mem_drop hm)
    · cases s1 : src t with
      | none => simp only [s1] at h1; exact .inl (hne.ap.oc _ _ _ _ h1)
      | some i => simp only [s1] at h1; exact .inr (hne'.ap.oc _ _ _ _ h1)
    · rcases hsplit t r' hr' with ⟨ht, hr'⟩ | ⟨j, n, rfl, hnj, rfl⟩
      · obtain ⟨r0, a1, a2, a3, a4, a5⟩ := setRows_get T _ s.rows t r' hn hbl hr'
        rw [hψl t ht]
        exact h.sz0 t r0 a1 (by omega)
      · rw [hψr]
        exact hsr.sz0 (T.length + j) n (by rw [hrow_new]; exact hnj) hz
  · -- what is handed back
    exact (hsr.env 0 v r rfl rfl).back hres hdis2 hbc hback rfl
  · exact ⟨hkeep.os, hkeep.tape, hkeep.output, hkeep.size, fun b hb => hsame b (hKl b hb) (fun hm => hKa b (hOc b hm) hb)⟩
  · rcases hg with hg | hg
    · exact .inl hg
    · rcases hfresh g hg with h1 | h1
      · exact .inl (hOc g h1)
      · exact .inr h1
  · refine ⟨fun i hi => hψl i (Nat.lt_of_lt_of_le hi h.lo), fun i g cur t hi hg hc => ?_⟩
    by_cases hiT : i ∈ T
    · obtain ⟨j, hj⟩ := List.getElem?_of_mem hiT
      exact hlow.bl j g cur t (by rw [e3]; exact (hTlt j i hj).1) (by rw [hφc j i hj]; exact hg) hc
    · exact ⟨cur, by rw [hsame g (lt_of_heap hc) (hvis i g hg hiT)]; exact hc, rfl⟩
theorem aCall_ok (h : SR D w φ env s) (hKa : ∀ g, φ.O g → ¬ K g) (hKl : ∀ b, K b → b < w.heap.size) {f : FuncId} {args : List AV} {vs : Array Value} {k : AV → St → Prop} (hl : vs.size = args.length)
    (hv : ∀ (j : Nat) (v : Value) (u : AV), vs[j]? = some v → args[j]? = some u → VR D w φ s.rows s.ctr v u) (hk : aCall P f s args k) :
    Enters P f ∧ Calls P f vs w fun e w' => ∃ (v : Value) (u : AV) (φ' : Places) (s' : St), e = .returned v ∧ SR D w' φ' env s' ∧ VR D w' φ' s'.rows s'.ctr v u ∧ Keeps K w w' ∧ (∀ g, φ'.O g → φ.O g ∨ w.heap.size ≤ g) ∧ Lows s.low w φ w' φ' ∧ s'.low = s.low ∧ k u s' := by
  obtain ⟨T, hk⟩ := hk
  obtain ⟨h1, h2⟩ := aCallT_ok h hKa hKl hl hv hk
  refine ⟨h1, h2.mono ?_⟩
  rintro e w' ⟨v, u, φ', s', a1, a2, a3, a4, a5, a6, a7, a8, _⟩
  exact ⟨v, u, φ', s', a1, a2, a3, a4, a5, a6, a7, a8⟩
end
end Go.Am
