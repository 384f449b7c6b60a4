import Derived.Test.YtjmdhfjemaoebaaGreatM01x3
namespace Go.Am
open Go.RowKit
variable {D : Nat → Prop}
def aElems (s : St) (z : Nat) (y : AV) (k : Nat → List AV → Prop) : Prop :=
  match y with
  | .nil => k 0 []
  | .sl _ m cells => cells.length = m * z ∧ k m cells
  | .ref τ ver off m => aRow s τ ver fun r => if r.size = 0 ∨ r.size = z then (off + m * z ≤ r.cells.length ∧ (((r.cells.drop off).take (m * z)).all fun u => !u.isOwn) = true) ∧ k m ((r.cells.drop off).take (m * z)) else False
  | _ => False
def aAppend (P : Program) (s : St) (t : TypeId) (x y : AV) (k : AV → St → Prop) : Prop :=
  match P.underlying t with
  | some (.slice e) =>
    match zeroCellsA P e with
    | none => False
    | some cs => aSz P e fun z => aElems s z y fun m news => (cs.length = z ∧ (bsz P e).isSome = true ∧ (bsz P e).getD 0 ≠ 0) ∧
      match x with
      | .nil => (m = 0 → k .nil s) ∧ (0 < m → m * (bsz P e).getD 0 ≤ 140737488355328 ∧ k (.ref s.rows.length s.ctr 0 m) (s.push ⟨s.ctr, e, z, news⟩))
      | .ref τ ver off n => aRow s τ ver fun r => if off = 0 ∧ (r.size = 0 ∨ (r.ety = e ∧ r.size = z)) then n * z ≤ r.cells.length ∧
            (m = 0 → k (.ref τ ver 0 n) s) ∧
            (0 < m → (n + m) * z ≤ r.cells.length → k (.ref τ ver 0 (n + m)) (s.setRow τ (r.putC (r.cells.take (n * z) ++ (news ++ r.cells.drop (n * z + news.length)))))) ∧
            (0 < m → r.cells.length < (n + m) * z → s.low ≤ τ ∧ (n + m) * (bsz P e).getD 0 ≤ 140737488355328 ∧ k (.ref τ s.ctr 0 (n + m)) { s with rows := s.rows.set τ ⟨s.ctr, e, z, r.cells.take (n * z) ++ news⟩, ctr := s.ctr + 1 })
          else False
      | _ => False
  | _ => False
section
variable {P : Program} {w : World} {φ : Places} {s : St} {env : List Value} {K : Nat → Prop}
theorem values_of {ad : Addr} {cells : List AV} (h : At D w φ s ad cells) (hno : ∀ u ∈ cells, u.isOwn = false) : ∃ vs : List Value, vs.length = cells.length ∧ (∀ (j : Nat) (v : Value), vs[j]? = some v → w.cell? (ad.add j) = some v) ∧ (∀ v ∈ vs, v.oneCell' = true) ∧
    ∀ (j : Nat) (x : Value) (y : AV), vs[j]? = some x → cells[j]? = some y → VR D w φ s.rows s.ctr x y := by
  induction cells generalizing ad with
  | nil => exact ⟨[], rfl, fun j v h => by simp at h, fun v h => by simp at h, fun j x y h => by simp at h⟩
  | cons u us ih =>
    obtain ⟨v, a1, a2, a3⟩ := h 0 u rfl
    have h' : At D w φ s (ad.add 1) us := fun j u' hu => by
      obtain ⟨v', b1, b2, b3⟩ := h (j + 1) u' (by simpa using hu)
      exact ⟨v', fun w' hw => by rw [add_of_add, Nat.add_comm 1 j]; exact b1 w' hw, b2, b3⟩
    obtain ⟨vs, c1, c2, c3, c4⟩ := ih h' (fun x hx => hno x (List.mem_cons_of_mem _ hx))
    have a3 := a3 (hno u List.mem_cons_self)
    refine ⟨v :: vs, by simp [c1], fun j x hx => ?_, fun x hx => ?_, fun j x y hx hy => ?_⟩
    · cases j with
      | zero => simp at hx; subst hx; exact a1 w (Ext.refl w)
      | succ j =>
        have := c2 j x (by simpa using hx)
        rwa [add_of_add, Nat.add_comm 1 j] at this
    · rcases List.mem_cons.1 hx with rfl | hx
      · exact a2
      · exact c3 x hx
    · cases j with
      | zero => simp at hx hy; subst hx; subst hy; exact a3
      | succ j => exact c4 j x y (by simpa using hx) (by simpa using hy)
theorem elems_ok (h : SR D w φ env s) {z : Nat} {y : AV} {yv : Value} {k : Nat → List AV → Prop} (hy : VR D w φ s.rows s.ctr yv y) (hk : aElems s z y k) :
    ∃ (A : Option Addr) (m c : Nat) (news : List AV) (vs : List Value), yv = .slice A m c ∧ k m news ∧ news.length = m * z ∧ vs.length = m * z ∧ (∀ v ∈ vs, v.oneCell' = true) ∧ (∀ (j : Nat) (x : Value) (u : AV), vs[j]? = some x → news[j]? = some u → VR D w φ s.rows s.ctr x u) ∧
      (m = 0 ∨ ∃ ad, A = some ad ∧ ∀ (j : Nat) (v : Value), vs[j]? = some v → w.cell? (ad.add j) = some v) := by
  unfold aElems at hk
  split at hk
  · cases hy with
    | nil => exact ⟨none, 0, 0, [], [], rfl, hk, by simp, by simp, fun v h => by simp at h, fun j x u h => by simp at h, .inl rfl⟩
  · rename_i c0 m cells
    obtain ⟨hl, hk⟩ := hk
    cases hy with
    | sl0 A cap c hm => exact ⟨A, 0, cap, [], [], rfl, hk, by simp, by simp, fun v h => by simp at h, fun j x u h => by simp at h, .inl rfl⟩
    | sl ad _ _ cap _ vs hs hF hD hlt hn hm hl' hc h1 hv =>
      refine ⟨some ad, m, cap, cells, vs, rfl, hk, hl, by rw [hl', hl], h1, hv, .inr ⟨ad, rfl, fun j v hj => ?_⟩⟩
      rw [hc j (List.getElem?_eq_some_iff.1 hj).1, hj]
  · rename_i τ ver off m
    obtain ⟨r, hr, hver, hk⟩ := aRow_out hk
    split at hk
    case isFalse => exact hk.elim
    rename_i hsz
    obtain ⟨⟨hfit, hown⟩, hk⟩ := hk
    rw [List.all_eq_true] at hown
    cases hy with
    | ref _ _ _ _ _ hlt h1 hx =>
      rcases hx r hr hver with ⟨_, rfl, rfl, _⟩ | ⟨g, A, cap, cur, a1, rfl, a3, a4, a5, a6, a7, a8⟩
      · exact ⟨none, 0, 0, _, [], rfl, hk, by simp, by simp, fun v h => by simp at h, fun j x u h => by simp at h, .inl rfl⟩
      · have hat : At D w φ s ⟨g, off, none⟩ ((r.cells.drop off).take (m * z)) := fun j u hu => by
          rw [List.getElem?_take] at hu
          split at hu
          · exact h.at_row hr a1 off j u hu
          · cases hu
        obtain ⟨vs, c1, c2, c3, c4⟩ := values_of hat (fun u hu => by simpa using hown u hu)
        have hlen : ((r.cells.drop off).take (m * z)).length = m * z := by simp; omega
        refine ⟨A, m, cap, _, vs, rfl, hk, hlen, by rw [c1, hlen], c3, c4, ?_⟩
        by_cases hm : m = 0
        · exact .inl hm
        · exact .inr ⟨_, a6 (.inr (by omega)), c2⟩
  · exact hk.elim
theorem run_first {A : Option Addr} {m c z : Nat} {vs : List Value} (hl : vs.length = m * z) (h : m = 0 ∨ ∃ ad, A = some ad ∧ ∀ (j : Nat) (v : Value), vs[j]? = some v → w.cell? (ad.add j) = some v) :
    (Builtin.firstCells z m (.slice A m c)).run P w = .ok vs.toArray w := by
  rcases h with rfl | ⟨ad, rfl, hc⟩
  · have : vs = [] := List.eq_nil_of_length_eq_zero (by simpa using hl)
    subst this
    cases A <;> simp [Builtin.firstCells, loadCells, loadCellsFrom]
  · have := run_loadCells_list (P := P) w ad vs hc
    rw [hl] at this
    simp [Builtin.firstCells, this]
theorem take_toList (cur : Array Value) (n : Nat) (hn : n ≤ cur.size) : (cur.toList.take n).length = n := by simp; omega
theorem aAppend_ok (h : SR D w φ env s) (hK : ∀ g, φ.O g → ¬ K g) (hKl : ∀ b, K b → b < w.heap.size) {t : TypeId} {ty : TypeId} {x y : AV} {xv yv : Value} {k : AV → St → Prop} (hx : VR D w φ s.rows s.ctr xv x) (hy : VR D w φ s.rows s.ctr yv y) (hk : aAppend P s t x y k) :
    Does D s.low P w φ env K (Builtin.append_ #[t, t] ty #[xv, yv]) k := by
  unfold aAppend at hk
  simp only [Row.putC_eq] at hk
  split at hk
  case h_2 => exact hk.elim
  rename_i e hd
  split at hk
  case h_1 => exact hk.elim
  rename_i cs hcs
  have hk0 := aSz_out hk
  clear hk
  obtain ⟨z, hz, hz0, hk⟩ := hk0
  obtain ⟨zv, hzr, rfl, hzz⟩ := zero_run hcs
  have hk1 := elems_ok h hy hk
  clear hk
  obtain ⟨A, m, c, news, vs, rfl, ⟨⟨hlen, hbs, hb0⟩, hk⟩, n1, n2, n3, n4, n5⟩ := hk1
  obtain ⟨b, hb⟩ := Option.isSome_iff_exists.1 hbs
  rw [hb, Option.getD_some] at hb0 hk
  cases hi : P.info? e with
  | none => simp [hi] at hzz
  | some i =>
  simp [hi] at hzz
  have hsz : i.size = z := by simp [tsz, hi] at hz; exact hz
  have hby : i.bytes = b := by simp [bsz, hi] at hb; exact hb
  have hzs : zv.cells.size = z := by simpa using hlen
  have hfirst : (Builtin.firstCells z m (.slice A m c)).run P w = .ok vs.toArray w := run_first n2 n5
  have nothing : ∀ (B : Option Addr) (n cap : Nat), m = 0 → n ≤ cap → (Builtin.append_ #[t, t] ty #[.slice B n cap, .slice A m c]).run P w = .ok (.slice B n cap) w := by
    intro B n cap hm hn
    subst hm
    have hv0 : vs = [] := List.eq_nil_of_length_eq_zero (by simpa using n2)
    subst hv0
    cases B <;> simp [Builtin.append_, run_underlying hd, run_tsz hz, Builtin.lenOf, hfirst, hn, storeCells]
  have grow : ∀ (v : Value) (n : Nat) (xs : List Value), w.ownsRow 0 e z v n xs → 0 < m → (n + m) * b ≤ 140737488355328 →
      ∃ g' cap' cur' w', (Builtin.append_ #[t, t] ty #[v, .slice A m c]).run P w = .ok (.slice (some ⟨g', 0, none⟩) (n + m) cap') w' ∧ w'.heap[g']? = some (.cells cur' e (0, 0)) ∧ n + m ≤ cap' ∧ cap' ≤ maxLen ∧ cur'.size = cap' * z ∧
        cur'.toList.take ((n + m) * z) = xs ++ vs ∧ w.grownBy w' v.ownBlock ∧ (v.ownBlock = some g' ∨ w.heap.size ≤ g') := by
    intro v n xs hown hm hbytes
    obtain ⟨ad, rfl, hc⟩ : ∃ ad, A = some ad ∧ ∀ (j : Nat) (v : Value), vs[j]? = some v → w.cell? (ad.add j) = some v := by
      rcases n5 with h0 | h0
      · omega
      · exact h0
    have hnm : n + m ≤ maxLen := by
      have : n + m ≤ (n + m) * b := Nat.le_mul_of_pos_right _ (by omega)
      simp only [maxLen]; omega
    obtain ⟨v', w', r1, r2, r3, r4, r5⟩ := run_append_own_at (P := P) w 0 t ty e i zv z b hd hi hzz hsz hby hzs (by omega) v n xs hown ad m c vs n2 hc n3 hnm hbytes (Nat.zero_le _)
    obtain ⟨_, hcase⟩ := r2
    rcases hcase with ⟨_, h0⟩ | ⟨g', cap', cur', rfl, _, d1, d2, d3, d4, d5⟩
    · omega
    · refine ⟨g', cap', cur', w', r1, d1, d2, d3, d4, d5, r3, ?_⟩
      rcases r5 with r5 | r5
      · exact .inl r5.symm
      · simp only [Value.ownBlock, Option.some.injEq] at r5
        exact .inr (Nat.le_of_eq r5.symm)
  have keeps : ∀ {w' : World} {ob : Option Nat}, w.grownBy w' ob → (∀ g, ob = some g → ¬ K g) → Keeps K w w' := fun hg ho =>
    ⟨hg.os, hg.tape, hg.output, hg.size, fun x hx => hg.block x (hKl x hx) (fun e' => ho x e'.symm hx)⟩
  split at hk
  · -- nil
    cases hx with
    | nil =>
    obtain ⟨k0, k1⟩ := hk
    by_cases hm : m = 0
    · exact ⟨_, .nil, w, φ, s, nothing _ _ _ hm (Nat.le_refl _), h, .nil, Keeps.refl _ _, fun g hg => .inl hg, Lows.refl _ _ _, rfl, k0 hm⟩
    · obtain ⟨hbytes, k1⟩ := k1 (by omega)
      obtain ⟨g', cap', cur', w', r1, d1, d2, d3, d4, d5, d6, d7⟩ := grow (.slice none 0 0) 0 [] ⟨by simp, .inl ⟨rfl, rfl⟩⟩ (by omega) (by simpa using hbytes)
      simp only [Nat.zero_add, List.nil_append] at r1 d2 d5
      have hge : w.heap.size ≤ g' := by
        rcases d7 with d7 | d7
        · simp [Value.ownBlock] at d7
        · exact d7
      have hext : Ext w w' := ⟨d6.size, fun b hb => d6.block b hb (by simp [Value.ownBlock])⟩
      have hmk : m * z ≤ cur'.size := by rw [d4]; exact Nat.mul_le_mul_right z d2
      have hvs : ∀ j, j < m * z → cur'[j]? = vs[j]? := fun j hj => by
        rw [← d5, List.getElem?_take, if_pos hj]; simp
      have m0 : Mv w φ s.rows s.ctr w' (φ.snoc (some g')) (s.rows ++ [⟨s.ctr, e, z, news⟩]) (s.ctr + 1) := by
        have hlen' := h.len
        refine ⟨hext.sz, by omega, fun b hb hF => ⟨?_, hext.bl b hb⟩, fun t r' hr' hlt => ?_⟩
        · rintro (h1 | h1)
          · exact hF h1
          · cases h1; omega
        · rw [getElem?_snoc] at hr'
          split at hr'
          · refine ⟨r', hr', rfl, rfl, rfl, ?_, fun g cur hg hc => ⟨cur, ?_, rfl⟩⟩
            · rw [snoc_l, List.getElem?_append_left (by omega)]
            · rw [hext.bl g (lt_of_heap hc)]; exact hc
          · split at hr'
            · cases hr'; exact absurd hlt (Nat.lt_irrefl _)
            · cases hr'
      obtain ⟨s1, s2⟩ := h.push (w' := w') (r := ⟨s.ctr, e, z, news⟩) (ob := some g') rfl hext (fun g hg => by cases hg; exact ⟨hge, lt_of_heap d1⟩)
        ⟨cur', d1, by simp only; omega, fun _ _ => rfl, fun j u hu => by
          have hj : j < m * z := by rw [← n1]; exact (List.getElem?_eq_some_iff.1 hu).1
          have hx : vs[j]? = some (vs[j]'(by omega)) := List.getElem?_eq_getElem _
          exact ⟨_, by rw [hvs j hj]; exact hx, n3 _ (List.getElem_mem _), .vr _ _ ((n4 j _ u hx hu).mv m0)⟩⟩ (fun e' => absurd e' hz0)
      refine ⟨_, _, w', _, _, r1, s1, .ref _ _ _ _ _ (by simp [St.push]) rfl fun r hr hver => ?_, keeps d6 (fun g hg => by simp [Value.ownBlock] at hg), fun g hg => ?_, Lows.new (fun i hi => List.getElem?_append_left (by have h1 := h.lo; have h2 := h.len; omega)) (fun b hb => hext.bl b hb), rfl, k1⟩
      · have : r = ⟨s.ctr, e, z, news⟩ := by
          simp only [St.push] at hr; rw [getElem?_snoc] at hr; simp at hr; exact hr.symm
        subst this
        exact .inr ⟨g', _, cap', cur', by rw [← h.len]; simp [Places.snoc], rfl, d2, d3, d1, fun _ => rfl, fun _ => d4, by simp only; omega⟩
      · rcases hg with hg | hg
        · exact .inl hg
        · cases hg; exact .inr hge
  · -- a row of the call's own
    rename_i τ ver off n
    have hk0 := aRow_out hk
    clear hk
    obtain ⟨r, hr, hver, hk⟩ := hk0
    split at hk
    case isFalse => exact hk.elim
    rename_i hoff
    obtain ⟨rfl, hsize⟩ := hoff
    obtain ⟨hnz, k0, k1, k2⟩ := hk
    cases hx with
    | ref _ _ _ _ _ hlt h1 hx =>
    have hx0 := hx
    have hxr := hx r hr hver
    by_cases hm : m = 0
    · rcases hxr with ⟨_, rfl, rfl, _⟩ | ⟨g, B, cap, cur, a1, rfl, a3, a4, a5, a6, a7, a8⟩
      · exact ⟨_, _, w, φ, s, nothing _ _ _ hm (Nat.le_refl _), h, .ref τ ver 0 0 _ hlt h1 hx0, Keeps.refl _ _, fun g hg => .inl hg, Lows.refl _ _ _, rfl, k0 hm⟩
      · exact ⟨_, _, w, φ, s, nothing _ _ _ hm a3, h, .ref τ ver 0 n _ hlt h1 hx0, Keeps.refl _ _, fun g hg => .inl hg, Lows.refl _ _ _, rfl, k0 hm⟩
    · have hm' : 0 < m := by omega
      by_cases hfit : (n + m) * z ≤ r.cells.length
      · -- it fits in what is known of the row
        have k1 := k1 hm' hfit
        rcases hxr with ⟨a1, rfl, rfl, _⟩ | ⟨g, B, cap, cur, a1, rfl, a3, a4, a5, a6, a7, a8⟩
        · exfalso
          obtain ⟨ω, hnest⟩ := h.nest
          have h0 : r.cells.length = 0 := by rw [(hnest.row τ r none hr a1).1]; rfl
          have : 1 ≤ (0 + m) * z := Nat.mul_pos (by omega) (by omega)
          omega
        · have hB := a6 (.inl rfl); subst hB
          obtain ⟨cur0, c1, c2, c3⟩ := h.cur hr a1
          rw [a5] at c1; cases c1
          have hrz : r.size = z := by
            rcases hsize with h0 | h0
            · exfalso
              have := h.sz0 τ r hr h0
              rw [a1] at this; cases this
            · exact h0.2
          have hcap : n + m ≤ cap := by
            have := a7 rfl
            rw [hrz] at this
            have h2 : (n + m) * z ≤ cap * z := by omega
            exact Nat.le_of_mul_le_mul_right h2 (by omega)
          have hnews : n * z + news.length ≤ r.cells.length := by rw [n1, ← Nat.add_mul]; exact hfit
          obtain ⟨b1, b2, b3, b4, b5⟩ := write_row (P := P) (off := n * z) (vs := vs) (us := news) h hK hr a1 (by omega) hnews n3 n4
          have hrun : (Builtin.append_ #[t, t] ty #[.slice (some ⟨g, 0, none⟩) n cap, .slice A m c]).run P w = .ok (.slice (some ⟨g, 0, none⟩) (n + m) cap) (w.setCells g (n * z) vs) := by
            have hadd : (⟨g, 0, none⟩ : Addr).add (n * z) = ⟨g, n * z, none⟩ := by rw [add_mk, Nat.zero_add]
            simp [Builtin.append_, run_underlying hd, run_tsz hz, Builtin.lenOf, hfirst, hcap, hadd, b1]
          refine ⟨_, _, _, φ, _, hrun, b2, .ref τ ver 0 (n + m) _ hlt rfl fun r' hr' hver' => ?_, b3, fun g hg => .inl hg, b5, rfl, k1⟩
          have : r' = { r with cells := r.cells.take (n * z) ++ (news ++ r.cells.drop (n * z + news.length)) } := by
            have ht : τ < s.rows.length := (List.getElem?_eq_some_iff.1 hr).1
            simp only [St.setRow] at hr'
            rw [List.getElem?_set] at hr'
            simp [ht] at hr'
            exact hr'.symm
          subst this
          obtain ⟨e1, _, _, _, _, _⟩ := heap_setCells vs w g (n * z) cur r.ety (0, 0) a5
          refine .inr ⟨g, _, cap, spliceA cur (n * z) vs, a1, rfl, hcap, a4, e1, fun _ => rfl, fun _ => by rw [spliceA_size]; exact a7 rfl, ?_⟩
          rw [spliceA_size]
          simp only [hrz]
          omega
      · -- it grows
        obtain ⟨hlow, hbytes, k2⟩ := k2 hm' (by omega)
        obtain ⟨ob, xs, cur, hob, hcurw, hown, hobw, hxs, hxl⟩ : ∃ (ob : Option Nat) (xs : List Value) (cur : Array Value), φ.l[τ]? = some ob ∧ (∀ g, ob = some g → w.heap[g]? = some (.cells cur r.ety (0, 0))) ∧ w.ownsRow 0 e z xv n xs ∧ xv.ownBlock = ob ∧
            (∀ (j : Nat) (u : AV), (r.cells.take (n * z))[j]? = some u → ∃ v, xs[j]? = some v ∧ v.oneCell' = true ∧ r.cells[j]? = some u ∧ cur[j]? = some v) ∧ xs.length = n * z := by
          rcases hxr with ⟨a1, rfl, rfl, _⟩ | ⟨g, B, cap, cur, a1, rfl, a3, a4, a5, a6, a7, a8⟩
          · exact ⟨none, [], #[], a1, fun g hg => (by cases hg), ⟨by simp, .inl ⟨rfl, rfl⟩⟩, rfl, fun j u hu => by simp at hu, by simp⟩
          · have hB := a6 (.inl rfl); subst hB
            obtain ⟨cur0, c1, c2, c3⟩ := h.cur hr a1
            rw [a5] at c1; cases c1
            have hrz : r.ety = e ∧ r.size = z := by
              rcases hsize with h0 | h0
              · exfalso
                have := h.sz0 τ r hr h0
                rw [a1] at this; cases this
              · exact h0
            have a7' := a7 rfl
            rw [hrz.2] at a7'
            refine ⟨some g, cur.toList.take (n * z), cur, a1, (fun g' hg' => by cases hg'; exact a5), ⟨take_toList cur _ (by omega), .inr ⟨g, cap, cur, rfl, Nat.zero_le _, by rw [← hrz.1]; exact a5, a3, a4, a7', rfl⟩⟩, rfl, fun j u hu => ?_, take_toList cur _ (by omega)⟩
            rw [List.getElem?_take] at hu
            split at hu
            · rename_i hj
              obtain ⟨v, e1, e2, _⟩ := c3 j u hu
              exact ⟨v, by rw [List.getElem?_take, if_pos hj]; simpa using e1, e2, hu, e1⟩
            · cases hu
        obtain ⟨g', cap', cur', w', r1, d1, d2, d3, d4, d5, d6, d7⟩ := grow xv n xs hown hm' hbytes
        have hge : ob = some g' ∨ w.heap.size ≤ g' := by rw [← hobw]; exact d7
        have hmk : (n + m) * z ≤ cur'.size := by rw [d4]; exact Nat.mul_le_mul_right z d2
        have hlen' : (r.cells.take (n * z) ++ news).length = (n + m) * z := by
          rw [List.length_append, n1, Nat.add_mul]; simp; omega
        obtain ⟨s1, s2⟩ := h.reRow (r' := ⟨s.ctr, e, z, r.cells.take (n * z) ++ news⟩) (w' := w') (cur := cur) hr hob rfl hz0 hcurw hge (lt_of_heap d1) d1 d6.size (fun b hb hne => d6.block b hb (by rw [hobw]; exact hne)) (by simp only; omega) (fun j u hu => by
          simp only at hu
          have hj : j < (n + m) * z := by rw [← hlen']; exact (List.getElem?_eq_some_iff.1 hu).1
          have hcur : cur'[j]? = (xs ++ vs)[j]? := by rw [← d5, List.getElem?_take, if_pos hj]; simp
          rw [hcur]
          have hlt1 : (r.cells.take (n * z)).length = n * z := by simp; omega
          by_cases hj1 : j < n * z
          · rw [List.getElem?_append_left (by omega)] at hu
            obtain ⟨v, e1, e2, e3, e4⟩ := hxs j u hu
            exact ⟨v, by rw [List.getElem?_append_left (by omega)]; exact e1, e2, .inr ⟨e3, e4⟩⟩
          · rw [List.getElem?_append_right (by omega), hlt1] at hu
            have hjn : j - n * z < m * z := by rw [← n1]; exact (List.getElem?_eq_some_iff.1 hu).1
            have hx : vs[j - n * z]? = some (vs[j - n * z]'(by omega)) := List.getElem?_eq_getElem _
            exact ⟨_, by rw [List.getElem?_append_right (by omega), hxl]; exact hx, n3 _ (List.getElem_mem _), .inl (n4 _ _ u hx hu)⟩)
        refine ⟨_, _, w', _, _, r1, s1, .ref _ _ _ _ _ (by simp) rfl fun r' hr' hver' => ?_, keeps d6 (fun g hg => hK g (h.occ g (List.mem_of_getElem? (by rw [hob, ← hobw, hg])))), fun g hg => ?_, ⟨fun i hi => by simp only; rw [List.getElem?_set, if_neg (by omega)], fun i g cur t hi hg hc => ⟨cur, ?_, rfl⟩⟩, rfl, k2⟩
        · have ht : τ < s.rows.length := (List.getElem?_eq_some_iff.1 hr).1
          have htφ : τ < φ.l.length := (List.getElem?_eq_some_iff.1 hob).1
          have : r' = ⟨s.ctr, e, z, r.cells.take (n * z) ++ news⟩ := by
            simp only at hr'
            rw [List.getElem?_set] at hr'
            simp [ht] at hr'
            exact hr'.symm
          subst this
          exact .inr ⟨g', _, cap', cur', by simp only; rw [List.getElem?_set]; simp [htφ], rfl, d2, d3, d1, fun _ => rfl, fun _ => d4, by simp only; omega⟩
        · rcases hg with hg | hg
          · exact .inl hg
          · subst hg
            rcases hge with hge | hge
            · exact .inl (h.occ g (List.mem_of_getElem? (by rw [hob, hge])))
            · exact .inr hge
        · rw [d6.block g (lt_of_heap hc) (fun e' => ?_)]
          · exact hc
          · have := h.inj i τ g hg (by rw [hob, ← hobw, ← e'])
            omega
  · exact hk.elim
end
end Go.Am
namespace Go.Am
open Go.RowKit
variable {D : Nat → Prop}
mutual
def AV.pure : AV → Bool
  | .ref _ _ _ _ => false
  | .ptr _ _ _ => false
  | .rd _ => false
  | .tup _ => false
  | .sl _ _ cs => pureL cs
  | .agg cs => pureL cs
  | .own _ _ _ cs => pureL cs
  | .un => true
  | .int _ _ => true
  | .bool _ => true
  | .str _ => true
  | .nil => true
def pureL : List AV → Bool
  | [] => true
  | u :: us => u.pure && pureL us
end
mutual
def AV.prot : AV → Bool
  | .ref _ _ _ _ => false
  | .ptr _ _ _ => false
  | .rd _ => false
  | .tup _ => false
  | .sl c _ cs => c == 1 && protL cs
  | .agg cs => protL cs
  | .own _ _ _ cs => protL cs
  | .un => true
  | .int _ _ => true
  | .bool _ => true
  | .str _ => true
  | .nil => true
def protL : List AV → Bool
  | [] => true
  | u :: us => u.prot && protL us
end
mutual
def AV.resOk : AV → Bool
  | .ref _ _ _ _ => true
  | .ptr _ _ _ => true
  | .rd _ => false
  | .tup us => resOkL us
  | .sl c _ cs => c == 1 && protL cs
  | .agg cs => resOkL cs
  | .own _ _ _ cs => resOkL cs
  | .un => true
  | .int _ _ => true
  | .bool _ => true
  | .str _ => true
  | .nil => true
def resOkL : List AV → Bool
  | [] => true
  | u :: us => u.resOk && resOkL us
end
def backT (s : St) (T : List Nat) (t : Nat) : Nat := if t < T.length then T.getD t 0 else t - T.length + s.rows.length
def verOf (s : St) (τ : Nat) : Nat :=
  match s.rows[τ]? with
  | some r => r.ver
  | none => 0
def backV (s : St) (T : List Nat) (t : Nat) : Nat := if t < T.length then verOf s (T.getD t 0) else s.ctr
mutual
def AV.back (s : St) (T : List Nat) : AV → AV
  | .ref t _ off n => .ref (backT s T t) (backV s T t) off n
  | .ptr t _ off => .ptr (backT s T t) (backV s T t) off
  | .tup us => .tup (backL s T us)
  | .agg cs => .agg (backL s T cs)
  | .own e z n cs => .own e z n (backL s T cs)
  | .rd cs => .rd cs
  | .sl c n cs => .sl c n cs
  | .un => .un
  | .int k n => .int k n
  | .bool b => .bool b
  | .str b => .str b
  | .nil => .nil
def backL (s : St) (T : List Nat) : List AV → List AV
  | [] => []
  | u :: us => u.back s T :: backL s T us
end
mutual
def AV.ren (s : St) (T : List Nat) : AV → Option AV
  | .ref τ ver off n =>
    match s.rows[τ]? with
    | some r => if r.ver = ver ∧ τ ∈ T then some (.ref (T.idxOf τ) 0 off n) else none
    | none => none
  | .ptr τ ver off =>
    match s.rows[τ]? with
    | some r => if r.ver = ver ∧ τ ∈ T then some (.ptr (T.idxOf τ) 0 off) else none
    | none => none
  | .rd _ => none
  | .tup us => (renL s T us).map .tup
  | .agg cs => (renL s T cs).map .agg
  | .own e z n cs => (renL s T cs).map (.own e z n)
  | .sl c n cs => if c = 1 ∧ protL cs = true then some (.sl c n cs) else none
  | .un => some .un
  | .int k n => some (.int k n)
  | .bool b => some (.bool b)
  | .str b => some (.str b)
  | .nil => some .nil
def renL (s : St) (T : List Nat) : List AV → Option (List AV)
  | [] => some []
  | u :: us => (u.ren s T).bind fun u' => (renL s T us).map (u' :: ·)
end
theorem pureL_get : ∀ {us : List AV} {j : Nat} {u : AV}, pureL us = true → us[j]? = some u → u.pure = true
  | [], j, u, _, h => by simp at h
  | x :: us, j, u, hp, h => by
    simp only [pureL, Bool.and_eq_true] at hp
    cases j with
    | zero => simp at h; subst h; exact hp.1
    | succ j => exact pureL_get hp.2 (by simpa using h)
theorem protL_get : ∀ {us : List AV} {j : Nat} {u : AV}, protL us = true → us[j]? = some u → u.prot = true
  | [], j, u, _, h => by simp at h
  | x :: us, j, u, hp, h => by
    simp only [protL, Bool.and_eq_true] at hp
    cases j with
    | zero => simp at h; subst h; exact hp.1
    | succ j => exact protL_get hp.2 (by simpa using h)
theorem resOkL_get : ∀ {us : List AV} {j : Nat} {u : AV}, resOkL us = true → us[j]? = some u → u.resOk = true
  | [], j, u, _, h => by simp at h
  | x :: us, j, u, hp, h => by
    simp only [resOkL, Bool.and_eq_true] at hp
    cases j with
    | zero => simp at h; subst h; exact hp.1
    | succ j => exact resOkL_get hp.2 (by simpa using h)
theorem backL_get {s : St} {T : List Nat} : ∀ (us : List AV) (j : Nat), (backL s T us)[j]? = (us[j]?).map (AV.back s T)
  | [], j => by simp [backL]
  | x :: us, j => by
    cases j with
    | zero => simp [backL]
    | succ j => simpa [backL] using backL_get us j
theorem backL_length {s : St} {T : List Nat} : ∀ (us : List AV), (backL s T us).length = us.length
  | [] => rfl
  | x :: us => by simp [backL, backL_length us]
theorem renL_get {s : St} {T : List Nat} : ∀ {us us' : List AV}, renL s T us = some us' → us'.length = us.length ∧ ∀ (j : Nat) (u' : AV), us'[j]? = some u' → ∃ u, us[j]? = some u ∧ u.ren s T = some u'
  | [], us', h => by simp only [renL, Option.some.injEq] at h; subst h; exact ⟨rfl, fun j u' h => by simp at h⟩
  | u :: us, us', h => by
    simp only [renL, Option.bind_eq_some_iff, Option.map_eq_some_iff] at h
    obtain ⟨u1, h1, us1, h2, rfl⟩ := h
    obtain ⟨a1, a2⟩ := renL_get h2
    refine ⟨by simp [a1], fun j u' hu => ?_⟩
    cases j with
    | zero => simp at hu; subst hu; exact ⟨u, rfl, h1⟩
    | succ j =>
      obtain ⟨x, b1, b2⟩ := a2 j u' (by simpa using hu)
      exact ⟨x, by simpa using b1, b2⟩
mutual
theorem prot_back {s : St} {T : List Nat} : ∀ {u : AV}, u.prot = true → u.back s T = u
  | .ref _ _ _ _, h => by simp [AV.prot] at h
  | .ptr _ _ _, h => by simp [AV.prot] at h
  | .rd _, _ => rfl
  | .tup _, h => by simp [AV.prot] at h
  | .sl _ _ _, _ => rfl
  | .agg cs, h => by
    simp only [AV.prot] at h
    simp only [AV.back, protL_back h]
  | .own _ _ _ cs, h => by
    simp only [AV.prot] at h
    simp only [AV.back, protL_back h]
  | .un, _ => rfl
  | .int _ _, _ => rfl
  | .bool _, _ => rfl
  | .str _, _ => rfl
  | .nil, _ => rfl
theorem protL_back {s : St} {T : List Nat} : ∀ {us : List AV}, protL us = true → backL s T us = us
  | [], _ => rfl
  | u :: us, h => by
    simp only [protL, Bool.and_eq_true] at h
    simp only [backL, prot_back h.1, protL_back h.2]
end
mutual
theorem prot_ren {s : St} {T : List Nat} : ∀ {u : AV}, u.prot = true → u.ren s T = some u
  | .ref _ _ _ _, h => by simp [AV.prot] at h
  | .ptr _ _ _, h => by simp [AV.prot] at h
  | .rd _, h => by simp [AV.prot] at h
  | .tup _, h => by simp [AV.prot] at h
  | .sl c n cs, h => by
    simp only [AV.prot, Bool.and_eq_true, beq_iff_eq] at h
    simp [AV.ren, h.1, h.2]
  | .agg cs, h => by
    simp only [AV.prot] at h
    simp only [AV.ren, protL_ren h, Option.map_some]
  | .own _ _ _ cs, h => by
    simp only [AV.prot] at h
    simp only [AV.ren, protL_ren h, Option.map_some]
  | .un, _ => rfl
  | .int _ _, _ => rfl
  | .bool _, _ => rfl
  | .str _, _ => rfl
  | .nil, _ => rfl
theorem protL_ren {s : St} {T : List Nat} : ∀ {us : List AV}, protL us = true → renL s T us = some us
  | [], _ => rfl
  | u :: us, h => by
    simp only [protL, Bool.and_eq_true] at h
    simp only [renL, prot_ren h.1, protL_ren h.2, Option.bind_some, Option.map_some]
end
mutual
theorem ren_resOk {s : St} {T : List Nat} : ∀ {u u' : AV}, u.ren s T = some u' → u'.resOk = true
  | .ref τ ver off n, u', h => by
    simp only [AV.ren] at h
    split at h
    · split at h
      · cases h; rfl
      · cases h
    · cases h
  | .ptr τ ver off, u', h => by
    simp only [AV.ren] at h
    split at h
    · split at h
      · cases h; rfl
      · cases h
    · cases h
  | .rd _, u', h => by simp [AV.ren] at h
  | .tup us, u', h => by
    simp only [AV.ren, Option.map_eq_some_iff] at h
    obtain ⟨us', h1, rfl⟩ := h
    simp only [AV.resOk]; exact renL_resOk h1
  | .agg us, u', h => by
    simp only [AV.ren, Option.map_eq_some_iff] at h
    obtain ⟨us', h1, rfl⟩ := h
    simp only [AV.resOk]; exact renL_resOk h1
  | .own e z n us, u', h => by
    simp only [AV.ren, Option.map_eq_some_iff] at h
    obtain ⟨us', h1, rfl⟩ := h
    simp only [AV.resOk]; exact renL_resOk h1
  | .sl c n cs, u', h => by
    simp only [AV.ren] at h
    split at h
    · rename_i hc; cases h; simp [AV.resOk, hc.1, hc.2]
    · cases h
  | .un, u', h => by simp only [AV.ren, Option.some.injEq] at h; subst h; rfl
  | .int _ _, u', h => by simp only [AV.ren, Option.some.injEq] at h; subst h; rfl
  | .bool _, u', h => by simp only [AV.ren, Option.some.injEq] at h; subst h; rfl
  | .str _, u', h => by simp only [AV.ren, Option.some.injEq] at h; subst h; rfl
  | .nil, u', h => by simp only [AV.ren, Option.some.injEq] at h; subst h; rfl
theorem renL_resOk {s : St} {T : List Nat} : ∀ {us us' : List AV}, renL s T us = some us' → resOkL us' = true
  | [], us', h => by simp only [renL, Option.some.injEq] at h; subst h; rfl
  | u :: us, us', h => by
    simp only [renL, Option.bind_eq_some_iff, Option.map_eq_some_iff] at h
    obtain ⟨u1, h1, us1, h2, rfl⟩ := h
    simp only [resOkL, ren_resOk h1, renL_resOk h2, Bool.and_self]
end
section
variable {P : Program} {w : World} {φ : Places} {s : St} {env : List Value}
theorem VR.repure {rows : List Row} {ctr : Nat} {v : Value} {u : AV} (h : VR D w φ rows ctr v u) (hp : u.pure = true) {φ' : Places} {rows' : List Row} {ctr' : Nat} (hφ : ∀ b, b < w.heap.size → ¬ φ.O b → ¬ φ'.O b) : VR D w φ' rows' ctr' v u := by
  induction h with
  | un v => exact .un v
  | int k n => exact .int k n
  | bool b => exact .bool b
  | str s => exact .str s
  | nil => exact .nil
  | sl0 A cap c hm => exact .sl0 A cap c hm
  | sl ad c n cap cells vs hs hF hD hlt hn hm hl hc h1 hv ih =>
    simp only [AV.pure] at hp
    exact .sl ad c n cap cells vs hs (hφ _ hlt hF) hD hlt hn hm hl hc h1 (fun j v u hv' hu => ih j v u hv' hu (pureL_get hp hu))
  | rd ad cells vs hs hF hlt hl hc h1 hv ih => simp [AV.pure] at hp
  | agg cs cells hl h1 hv ih =>
    simp only [AV.pure] at hp
    exact .agg cs cells hl h1 (fun j v u hv' hu => ih j v u hv' hu (pureL_get hp hu))
  | tup vs us hl hv ih => simp [AV.pure] at hp
  | ref t ver off n v hlt h1 h => simp [AV.pure] at hp
  | ptr t ver off v hlt h1 h => simp [AV.pure] at hp
theorem CV.repure {rows : List Row} {ctr : Nat} {v : Value} {u : AV} {F : Foot} (h : CV D w φ rows ctr v u F) (hp : u.pure = true) {φ' : Places} {rows' : List Row} {ctr' : Nat} (hφ : ∀ b, b < w.heap.size → ¬ φ.O b → ¬ φ'.O b) : CV D w φ' rows' ctr' v u F := by
  induction h with
  | vr v u h => exact .vr v u (h.repure hp hφ)
  | own0 e z hz => exact .own0 e z hz
  | own e z n g cap cur cells vs F hz hg hs hn hm hl hv hF hc ih =>
    simp only [AV.pure] at hp
    exact .own e z n g cap cur cells vs F hz hg hs hn hm hl hv hF fun j u hu => ih j u hu (pureL_get hp hu)
theorem VR.reprot {rows : List Row} {ctr : Nat} {v : Value} {u : AV} (h : VR D w φ rows ctr v u) (hp : u.prot = true) {φ' : Places} {rows' : List Row} {ctr' : Nat} (hφ : ∀ b, φ'.O b → ¬ D b) : VR D w φ' rows' ctr' v u := by
  induction h with
  | un v => exact .un v
  | int k n => exact .int k n
  | bool b => exact .bool b
  | str s => exact .str s
  | nil => exact .nil
  | sl0 A cap c hm => exact .sl0 A cap c hm
  | sl ad c n cap cells vs hs hF hD hlt hn hm hl hc h1 hv ih =>
    simp only [AV.prot, Bool.and_eq_true, beq_iff_eq] at hp
    exact .sl ad c n cap cells vs hs (fun hm' => hφ _ hm' (hD hp.1)) hD hlt hn hm hl hc h1 (fun j v u hv' hu => ih j v u hv' hu (protL_get hp.2 hu))
  | rd ad cells vs hs hF hlt hl hc h1 hv ih => simp [AV.prot] at hp
  | agg cs cells hl h1 hv ih =>
    simp only [AV.prot] at hp
    exact .agg cs cells hl h1 (fun j v u hv' hu => ih j v u hv' hu (protL_get hp hu))
  | tup vs us hl hv ih => simp [AV.prot] at hp
  | ref t ver off n v hlt h1 h => simp [AV.prot] at hp
  | ptr t ver off v hlt h1 h => simp [AV.prot] at hp
def BackRows (s : St) (T : List Nat) (rows rows' : List Row) (φ φ' : Places) : Prop :=
  ∀ (t : Nat) (r' : Row), rows'[backT s T t]? = some r' → r'.ver = backV s T t → ∃ r, rows[t]? = some r ∧ r.ver = 0 ∧ r.ety = r'.ety ∧ r.size = r'.size ∧ φ'.l[backT s T t]? = φ.l[t]?
theorem VR.back {rows : List Row} {v : Value} {u : AV} {T : List Nat} {ctr' : Nat} {c0 : Nat} (h : VR D w φ rows c0 v u) (hp : u.resOk = true) {φ' : Places} {rows' : List Row} (hφ : ∀ b, φ'.O b → ¬ D b) (hc : ∀ t, backV s T t < ctr')
    (hr : BackRows s T rows rows' φ φ') (hv0 : c0 = 1) : VR D w φ' rows' ctr' v (u.back s T) := by
  induction h with
  | un v => simp only [AV.back]; exact .un v
  | int k n => simp only [AV.back]; exact .int k n
  | bool b => simp only [AV.back]; exact .bool b
  | str s => simp only [AV.back]; exact .str s
  | nil => simp only [AV.back]; exact .nil
  | sl0 A cap c hm => simp only [AV.back]; exact .sl0 A cap c hm
  | sl ad c n cap cells vs hs hF hD hlt hn hm hl hc' h1 hv ih =>
    simp only [AV.back]
    exact (VR.sl (D := D) (w := w) (φ := φ) (rows := rows) (ctr := c0) ad c n cap cells vs hs hF hD hlt hn hm hl hc' h1 hv).reprot (by simpa [AV.prot, AV.resOk] using hp) hφ
  | rd ad cells vs hs hF hlt hl hc' h1 hv ih => simp [AV.resOk] at hp
  | agg cs cells hl h1 hv ih =>
    simp only [AV.resOk] at hp
    simp only [AV.back]
    refine .agg cs _ (by rw [backL_length]; exact hl) h1 (fun j v u hv' hu => ?_)
    rw [backL_get, Option.map_eq_some_iff] at hu
    obtain ⟨u', hu', rfl⟩ := hu
    exact ih j v u' hv' hu' (resOkL_get hp hu')
  | tup vs us hl hv ih =>
    simp only [AV.resOk] at hp
    simp only [AV.back]
    refine .tup vs _ (by rw [backL_length]; exact hl) (fun j v u hv' hu => ?_)
    rw [backL_get, Option.map_eq_some_iff] at hu
    obtain ⟨u', hu', rfl⟩ := hu
    exact ih j v u' hv' hu' (resOkL_get hp hu')
  | ref t ver off n v hlt h1 h =>
    simp only [AV.back]
    refine .ref _ _ _ _ _ (hc t) h1 fun r' hr' hver => ?_
    obtain ⟨r, a1, a2, a3, a4, a5⟩ := hr t r' hr' hver
    rcases h r a1 (by omega) with ⟨b1, b2, b3, b4⟩ | ⟨g, A, cap, cur, b1, b2, b3, b4, b5, b6, b7, b8⟩
    · exact .inl ⟨by rw [a5]; exact b1, b2, b3, b4⟩
    · exact .inr ⟨g, A, cap, cur, by rw [a5]; exact b1, b2, b3, b4, by rw [← a3]; exact b5, b6, by rw [← a4]; exact b7, by rw [← a4]; exact b8⟩
  | ptr t ver off v hlt h1 h =>
    simp only [AV.back]
    refine .ptr _ _ _ _ (hc t) h1 fun r' hr' hver => ?_
    obtain ⟨r, a1, a2, a3, a4, a5⟩ := hr t r' hr' hver
    obtain ⟨g, b1, b2⟩ := h r a1 (by omega)
    exact ⟨g, by rw [a5]; exact b1, b2⟩
theorem CV.back {rows : List Row} {v : Value} {u : AV} {F : Foot} {T : List Nat} {ctr' : Nat} {c0 : Nat} (h : CV D w φ rows c0 v u F) (hp : u.resOk = true) {φ' : Places} {rows' : List Row} (hφ : ∀ b, φ'.O b → ¬ D b) (hc : ∀ t, backV s T t < ctr')
    (hr : BackRows s T rows rows' φ φ') (hv0 : c0 = 1) : CV D w φ' rows' ctr' v (u.back s T) F := by
  induction h with
  | vr v u h => exact .vr v _ (h.back hp hφ hc hr hv0)
  | own0 e z hz => simp only [AV.back, backL]; exact .own0 e z hz
  | own e z n g cap cur cells vs F hz hg hs hn hm hl hv hF hcc ih =>
    simp only [AV.resOk] at hp
    simp only [AV.back]
    refine .own e z n g cap cur _ vs F hz hg hs hn hm (by rw [backL_length]; exact hl) (fun j u hu => ?_) (fun j hj => ?_) (fun j u hu => ?_)
    · rw [backL_get, Option.map_eq_some_iff] at hu
      obtain ⟨u', hu', rfl⟩ := hu
      exact hv j u' hu'
    · rw [backL_get, Option.map_eq_none_iff] at hj
      exact hF j hj
    · rw [backL_get, Option.map_eq_some_iff] at hu
      obtain ⟨u', hu', rfl⟩ := hu
      exact ih j u' hu' (resOkL_get hp hu')
def St.tree (s : St) (T : List Nat) : Nat → AV → Option AV
  | 0, _ => none
  | f + 1, u =>
    match u with
    | .nil => some (.sl 0 0 [])
    | .ref τ ver off n =>
      match s.rows[τ]? with
      | some r => if r.ver = ver ∧ off + n * r.size ≤ r.cells.length ∧ τ ∉ T then (((r.cells.drop off).take (n * r.size)).mapM (s.tree T f)).map (.sl 0 n) else none
      | none => none
    | .agg cs => (cs.mapM (s.tree T f)).map .agg
    | .own _ _ n cs => (cs.mapM (s.tree T f)).map (.sl 0 n)
    | u => if u.pure = true then some u else none
theorem mapM_get {α β : Type} {g : α → Option β} : ∀ {l : List α} {l' : List β}, l.mapM g = some l' → l'.length = l.length ∧ ∀ (j : Nat) (b : β), l'[j]? = some b → ∃ a, l[j]? = some a ∧ g a = some b
  | [], l', h => by
    simp at h; subst h; exact ⟨rfl, fun j b hb => by simp at hb⟩
  | x :: l, l', h => by
    simp only [List.mapM_cons, Option.bind_eq_bind, Option.pure_def, Option.bind_eq_some_iff, Option.some.injEq] at h
    obtain ⟨y, hy, ys, hys, rfl⟩ := h
    obtain ⟨h1, h2⟩ := mapM_get hys
    refine ⟨by simp [h1], fun j b hb => ?_⟩
    cases j with
    | zero => simp at hb; subst hb; exact ⟨x, rfl, hy⟩
    | succ j =>
      obtain ⟨a, ha, hg⟩ := h2 j b (by simpa using hb)
      exact ⟨a, by simpa using ha, hg⟩
theorem VR.sl_of {φc : Places} {rc : List Row} {cc : Nat} {g off n cap : Nat} {cur : Array Value} {e : TypeId} {cs : List AV} (hg : w.heap[g]? = some (.cells cur e (0, 0))) (hO : ¬ φc.O g) (hn : n ≤ cap) (hm : cap ≤ maxLen)
    (hv : ∀ (j : Nat) (u : AV), cs[j]? = some u → ∃ v, cur[off + j]? = some v ∧ v.oneCell' = true ∧ VR D w φc rc cc v u) : VR D w φc rc cc (.slice (some ⟨g, off, none⟩) n cap) (.sl 0 n cs) := by
  have get : ∀ j, j < cs.length → ∃ v u, cs[j]? = some u ∧ cur[off + j]? = some v ∧ v.oneCell' = true ∧ VR D w φc rc cc v u := fun j hj => by
    obtain ⟨v, a1, a2, a3⟩ := hv j _ (List.getElem?_eq_getElem hj)
    exact ⟨v, _, List.getElem?_eq_getElem hj, a1, a2, a3⟩
  refine .sl _ 0 n cap cs ((List.range cs.length).map fun j => (cur[off + j]?).getD undef) rfl hO (fun h0 => by omega) (lt_of_heap hg) hn hm (by simp) (fun j hj => ?_) (fun v hv' => ?_) (fun j v u hv' hu => ?_)
  · have hj' : j < cs.length := by simpa using hj
    obtain ⟨v, u, _, a1, _⟩ := get j hj'
    rw [add_mk]
    simp [World.cell?, hg, hj', a1]
  · simp only [List.mem_map, List.mem_range] at hv'
    obtain ⟨j, hj, rfl⟩ := hv'
    obtain ⟨v, u, _, a1, a2, _⟩ := get j hj
    simp [a1, a2]
  · have hj : j < cs.length := by
      have := (List.getElem?_eq_some_iff.1 hv').1
      simpa using this
    obtain ⟨v', u', a0, a1, _, a3⟩ := get j hj
    rw [a0] at hu; cases hu
    simp [hj, a1] at hv'
    subst hv'
    exact a3
theorem SR.tree (_ : SR D w φ env s) {ω : Nat → Nat → Foot} (hn : Nest D w φ s.rows s.ctr ω) {T : List Nat} {φc : Places} (hsub : ∀ b, b < w.heap.size → ¬ φ.O b → ¬ φc.O b) (hvis : ∀ τ g, φ.l[τ]? = some (some g) → τ ∉ T → ¬ φc.O g) (hnest : ∀ τ j p b, ω τ j p b → τ ∉ T → ¬ φc.O b)
    {rc : List Row} {cc : Nat} : ∀ (f : Nat), (∀ {v : Value} {u u' : AV}, VR D w φ s.rows s.ctr v u → s.tree T f u = some u' → VR D w φc rc cc v u') ∧
      (∀ {v : Value} {u u' : AV} {F : Foot}, CV D w φ s.rows s.ctr v u F → (∀ p b, F p b → ¬ φc.O b) → s.tree T f u = some u' → VR D w φc rc cc v u') := by
  intro f
  induction f with
  | zero => exact ⟨fun hv ht => by simp [St.tree] at ht, fun hv _ ht => by simp [St.tree] at ht⟩
  | succ f ih =>
    have plain : ∀ {v : Value} {u u' : AV}, VR D w φ s.rows s.ctr v u → s.tree T (f + 1) u = some u' → VR D w φc rc cc v u' := by
      intro v u u' hv ht
      have dflt : ∀ u0, u0.pure = true → u = u0 → u' = u0 → VR D w φc rc cc v u' := fun u0 hp e1 e2 => by
        subst e1; subst e2; exact hv.repure hp hsub
      unfold St.tree at ht
      split at ht
      · simp only [Option.some.injEq] at ht
        subst ht
        cases hv with
        | nil => exact .sl0 none 0 0 (Nat.zero_le _)
      · rename_i τ ver off n
        split at ht
        case h_2 => cases ht
        rename_i r hr
        split at ht
        case isFalse => cases ht
        rename_i hc
        obtain ⟨hver, hfit, hnT⟩ := hc
        rw [Option.map_eq_some_iff] at ht
        obtain ⟨cs, hcs, rfl⟩ := ht
        obtain ⟨m1, m2⟩ := mapM_get hcs
        cases hv with
        | ref _ _ _ _ _ hlt h1 hx =>
          rcases hx r hr hver with ⟨_, rfl, rfl, _⟩ | ⟨g, A, cap, cur, a1, rfl, a3, a4, a5, a6, a7, a8⟩
          · have : cs = [] := List.eq_nil_of_length_eq_zero (by rw [m1]; simp)
            subst this
            exact .sl0 none 0 0 (Nat.zero_le _)
          · by_cases hn0 : n = 0
            · subst hn0
              have : cs = [] := List.eq_nil_of_length_eq_zero (by rw [m1]; simp)
              subst this
              exact .sl0 A cap 0 a4
            · have hA := a6 (.inr (by omega)); subst hA
              obtain ⟨cur0, c1, _, _, c4⟩ := hn.row τ r (some g) hr a1
              rw [a5] at c1; cases c1
              refine VR.sl_of a5 (hvis τ g a1 hnT) a3 a4 fun j u hu => ?_
              obtain ⟨a, ha, hg⟩ := m2 j u hu
              rw [List.getElem?_take] at ha
              split at ha
              · rw [List.getElem?_drop] at ha
                obtain ⟨v, d1, d2, d3⟩ := c4 _ a ha
                exact ⟨v, d1, d2, ih.2 d3 (fun p b hb => hnest τ _ p b hb hnT) hg⟩
              · cases ha
      · rename_i cs
        rw [Option.map_eq_some_iff] at ht
        obtain ⟨cs', hcs, rfl⟩ := ht
        obtain ⟨m1, m2⟩ := mapM_get hcs
        cases hv with
        | agg vs _ hl h1 hv' =>
          refine .agg vs cs' (by rw [m1]; exact hl) h1 (fun j x y hx hy => ?_)
          obtain ⟨a, ha, hg⟩ := m2 j y hy
          exact ih.1 (hv' j x a hx ha) hg
      · cases hv
      · split at ht
        · rename_i hp
          simp only [Option.some.injEq] at ht
          exact dflt u hp rfl ht.symm
        · cases ht
    refine ⟨plain, ?_⟩
    intro v u u' F hv hF ht
    cases hv with
    | vr _ _ hv => exact plain hv ht
    | own0 e z hz =>
      simp only [St.tree] at ht
      simp at ht
      subst ht
      exact .sl0 none 0 0 (Nat.zero_le _)
    | own e z n g cap cur cells vs F' hz hg hs hn' hm hl hv' hF' hc =>
      simp only [St.tree, Option.map_eq_some_iff] at ht
      obtain ⟨cs, hcs, rfl⟩ := ht
      obtain ⟨m1, m2⟩ := mapM_get hcs
      refine VR.sl_of hg (hF [] g rfl) hn' hm fun j u hu => ?_
      obtain ⟨a, ha, hga⟩ := m2 j u hu
      obtain ⟨b1, b2⟩ := hv' j a ha
      exact ⟨vs j, by rw [Nat.zero_add]; exact b1, b2, ih.2 (hc j a ha) (fun p b hb => hF (j :: p) b hb) hga⟩
end
def Enters (P : Program) (f : FuncId) : Prop := ∀ (args : Array Value) (w : World), (callFunc f args).run P w = .ok (.enter f args) w
structure CSpec where
  ι : Type
  inout : List Bool
  args : ι → List AV
  ins : ι → List Row
  pre : ι → Prop
  post : ι → AV → List (List AV) → List Row → Prop
def upd (ins : List Row) (ic : List (List AV)) : List Row := List.zipWith (fun r c => { r with cells := c }) ins ic
def Left1 (D : Nat → Prop) (w : World) (φ : Places) (ins : List Row) (post : AV → List (List AV) → List Row → Prop) (e : Ending) (w' : World) : Prop :=
  ∃ (v : Value) (r : AV) (ic : List (List AV)) (news : List Row) (φ' : Places), e = .returned v ∧ post r ic news ∧ ic.length = ins.length ∧ (∀ c ∈ ic, resOkL c = true) ∧ (∀ n ∈ news, n.ver = 0 ∧ resOkL n.cells = true) ∧ r.resOk = true ∧
    Keeps (fun b => b < w.heap.size ∧ ¬ φ.O b) w w' ∧ SR D w' φ' [v] ⟨[r], upd ins ic ++ news, 1, 0⟩ ∧ Lows ins.length w φ w' φ' ∧ (∀ b, φ'.O b → φ.O b ∨ w.heap.size ≤ b)
def Sound (P : Program) (f : FuncId) (sp : CSpec) : Prop :=
  Enters P f ∧ ∀ x : sp.ι, sp.pre x → ∀ (D : Nat → Prop) (w : World) (vs : Array Value) (φ : Places), SR D w φ vs.toList ⟨sp.args x, sp.ins x, 1, (sp.ins x).length⟩ → (∀ r ∈ sp.ins x, r.ver = 0) →
    Calls P f vs w (Left1 D w φ (sp.ins x) (sp.post x))
def callArg (s : St) (T : List Nat) (b : Bool) (u : AV) : Option AV :=
  match u with
  | .ptr τ ver off => (AV.ptr τ ver off).ren s T
  | u => if b = true then u.ren s T else s.tree T 4 u
def callArgs (s : St) (T : List Nat) : List Bool → List AV → Option (List AV)
  | _, [] => some []
  | bs, u :: us => (callArg s T (bs.headD false) u).bind fun u' => (callArgs s T bs.tail us).map (u' :: ·)
def insOf (s : St) (T T' : List Nat) : Option (List Row) := T'.mapM fun τ => (s.rows[τ]?).bind fun r => (renL s T r.cells).map fun c => { r with ver := 0, cells := c }
def setRows : List Row → List Nat → List (List AV) → List Row
  | rows, τ :: T, c :: ic => setRows (rows.modify τ fun r => r.putC c) T ic
  | rows, _, _ => rows
def St.news (s : St) (T : List Nat) (news : List Row) : List Row := news.map fun n => ⟨s.ctr, n.ety, n.size, backL s T n.cells⟩
def St.after (s : St) (T : List Nat) (ic : List (List AV)) (news : List Row) : St :=
  { s with rows := setRows s.rows T (ic.map (backL s T)) ++ s.news T news, ctr := s.ctr + 1 }
def aCallT (P : Program) (f : FuncId) (s : St) (T : List Nat) (args : List AV) (k : AV → St → Prop) : Prop :=
  ∃ sp : CSpec, Sound P f sp ∧ ∃ us ins, T.Nodup ∧ callArgs s T sp.inout args = some us ∧ insOf s T T = some ins ∧ ∃ x, us = sp.args x ∧ ins = sp.ins x ∧ sp.pre x ∧
    ∀ r ic news, sp.post x r ic news → ic.length = T.length → k (r.back s T) (s.after T ic news)
def aCall (P : Program) (f : FuncId) (s : St) (args : List AV) (k : AV → St → Prop) : Prop := ∃ T, aCallT P f s T args k
theorem setRows_length : ∀ (T : List Nat) (ic : List (List AV)) (rows : List Row), (setRows rows T ic).length = rows.length
  | [], ic, rows => by cases ic <;> rfl
  | τ :: T, [], rows => rfl
  | τ :: T, c :: ic, rows => by rw [setRows, setRows_length]; simp
theorem setRows_get : ∀ (T : List Nat) (ic : List (List AV)) (rows : List Row) (t : Nat) (r' : Row), T.Nodup → ic.length = T.length → (setRows rows T ic)[t]? = some r' →
    ∃ r : Row, rows[t]? = some r ∧ r.ver = r'.ver ∧ r.ety = r'.ety ∧ r.size = r'.size ∧ ((t ∉ T ∧ r' = r) ∨ ∃ (i : Nat) (c : List AV), T[i]? = some t ∧ ic[i]? = some c ∧ r'.cells = c)
  | [], ic, rows, t, r', _, _, h => by
    have : setRows rows [] ic = rows := by cases ic <;> rfl
    rw [this] at h
    exact ⟨r', h, rfl, rfl, rfl, .inl ⟨by simp, rfl⟩⟩
  | τ :: T, [], rows, t, r', _, hl, h => by simp at hl
  | τ :: T, c :: ic, rows, t, r', hn, hl, h => by
    rw [setRows] at h
    simp only [Row.putC_eq] at h
    rw [List.nodup_cons] at hn
    obtain ⟨r1, a1, a2, a3, a4, a5⟩ := setRows_get T ic _ t r' hn.2 (by simpa using hl) h
    rw [List.getElem?_modify] at a1
    cases e0 : rows[t]? with
    | none => simp [e0] at a1
    | some r =>
      by_cases e : τ = t
      · subst e
        simp [e0] at a1
        subst a1
        refine ⟨r, rfl, a2, a3, a4, .inr ?_⟩
        rcases a5 with ⟨_, rfl⟩ | ⟨i, c', h1, h2, h3⟩
        · exact ⟨0, c, rfl, rfl, rfl⟩
        · exact ⟨i + 1, c', by simpa using h1, by simpa using h2, h3⟩
      · simp [e0, e] at a1
        subst a1
        refine ⟨r, rfl, a2, a3, a4, ?_⟩
        rcases a5 with ⟨h1, h2⟩ | ⟨i, c', h1, h2, h3⟩
        · exact .inl ⟨by simp only [List.mem_cons, not_or]; exact ⟨fun e' => e e'.symm, h1⟩, h2⟩
        · exact .inr ⟨i + 1, c', by simpa using h1, by simpa using h2, h3⟩
end Go.Am
