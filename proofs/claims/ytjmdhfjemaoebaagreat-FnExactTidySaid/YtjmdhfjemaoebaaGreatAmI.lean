import Derived.Test.YtjmdhfjemaoebaaGreatM0x3
namespace Go.Am
open Go.RowKit
variable {D : Nat → Prop}
def aElems (s : St) (z : Nat) (y : AV) (k : Nat → List AV → Prop) : Prop :=
  match y with
  | .nil => k 0 []
  | .sl _ m cells => cells.length = m * z ∧ k m cells
  | .ref τ ver off m => aRow s τ ver fun r => if r.size = 0 ∨ r.size = z then (off + m * z ≤ r.cells.length ∧ (((r.cells.drop off).take (m * z)).all fun u => !u.isOwn) = true) ∧ k m ((r.cells.drop off).take (m * z)) else False
  | _ => False
def aAppend (P : Program) (s : St) (t : TypeId) (x y : AV) (k : AV → St → Prop) : Prop :=
  match P.underlying t with
  | some (.slice e) =>
    match zeroCellsA P e with
    | none => False
    | some cs => aSz P e fun z => aElems s z y fun m news => (cs.length = z ∧ (bsz P e).isSome = true ∧ (bsz P e).getD 0 ≠ 0) ∧
      match x with
      | .nil => (m = 0 → k .nil s) ∧ (0 < m → m * (bsz P e).getD 0 ≤ 140737488355328 ∧ k (.ref s.rows.length s.ctr 0 m) (s.push ⟨s.ctr, e, z, news⟩))
      | .ref τ ver off n => aRow s τ ver fun r => if off = 0 ∧ (r.size = 0 ∨ (r.ety = e ∧ r.size = z)) then n * z ≤ r.cells.length ∧
            (m = 0 → k (.ref τ ver 0 n) s) ∧
            (0 < m → (n + m) * z ≤ r.cells.length → k (.ref τ ver 0 (n + m)) (s.setRow τ (r.putC (r.cells.take (n * z) ++ (news ++ r.cells.drop (n * z + news.length)))))) ∧
            (0 < m → r.cells.length < (n + m) * z → s.low ≤ τ ∧ (n + m) * (bsz P e).getD 0 ≤ 140737488355328 ∧ k (.ref τ s.ctr 0 (n + m)) { s with rows := s.rows.set τ ⟨s.ctr, e, z, r.cells.take (n * z) ++ news⟩, ctr := s.ctr + 1 })
          else False
      | _ => False
  | _ => False
section
variable {P : Program} {w : World} {φ : Places} {s : St} {env : List Value} {K : Nat → Prop}
theorem values_of {ad : Addr} {cells : List AV} (h : At D w φ s ad cells) (hno : ∀ u ∈ cells, u.isOwn = false) : ∃ vs : List Value, vs.length = cells.length ∧ (∀ (j : Nat) (v : Value), vs[j]? = some v → w.cell? (ad.add j) = some v) ∧ (∀ v ∈ vs, v.oneCell' = true) ∧
    ∀ (j : Nat) (x : Value) (y : AV), vs[j]? = some x → cells[j]? = some y → VR D w φ s.rows s.ctr x y := by
  induction cells generalizing ad with
  | nil => exact ⟨[], rfl, fun j v h => by simp at h, fun v h => by simp at h, fun j x y h => by simp at h⟩
  | cons u us ih =>
    obtain ⟨v, a1, a2, a3⟩ := h 0 u rfl
    have h' : At D w φ s (ad.add 1) us := fun j u' hu => by
      obtain ⟨v', b1, b2, b3⟩ := h (j + 1) u' (by simpa using hu)
      exact ⟨v', fun w' hw => by rw [add_of_add, Nat.add_comm 1 j]; exact b1 w' hw, b2, b3⟩
    obtain ⟨vs, c1, c2, c3, c4⟩ := ih h' (fun x hx => hno x (List.mem_cons_of_mem _ hx))
    have a3 := a3 (hno u List.mem_cons_self)
    refine ⟨v :: vs, by simp [c1], fun j x hx => ?_, fun x hx => ?_, fun j x y hx hy => ?_⟩
    · cases j with
      | zero => simp at hx; subst hx; exact a1 w (Ext.refl w)
      | succ j =>
        have := c2 j x (by simpa using hx)
        rwa [add_of_add, Nat.add_comm 1 j] at this
    · rcases List.mem_cons.1 hx with rfl | hx
      · exact a2
      · exact c3 x hx
    · cases j with
      | zero => simp at hx hy; subst hx; subst hy; exact a3
      | succ j => exact c4 j x y (by simpa using hx) (by simpa using hy)
theorem elems_ok (h : SR D w φ env s) {z : Nat} {y : AV} {yv : Value} {k : Nat → List AV → Prop} (hy : VR D w φ s.rows s.ctr yv y) (hk : aElems s z y k) :
    ∃ (A : Option Addr) (m c : Nat) (news : List AV) (vs : List Value), yv = .slice A m c ∧ k m news ∧ news.length = m * z ∧ vs.length = m * z ∧ (∀ v ∈ vs, v.oneCell' = true) ∧ (∀ (j : Nat) (x : Value) (u : AV), vs[j]? = some x → news[j]? = some u → VR D w φ s.rows s.ctr x u) ∧
      (m = 0 ∨ ∃ ad, A = some ad ∧ ∀ (j : Nat) (v : Value), vs[j]? = some v → w.cell? (ad.add j) = some v) := by
  unfold aElems at hk
  split at hk
  · cases hy with
    | nil => exact ⟨none, 0, 0, [], [], rfl, hk, by simp, by simp, fun v h => by simp at h, fun j x u h => by simp at h, .inl rfl⟩
  · rename_i c0 m cells
    obtain ⟨hl, hk⟩ := hk
    cases hy with
    | sl0 A cap c hm => exact ⟨A, 0, cap, [], [], rfl, hk, by simp, by simp, fun v h => by simp at h, fun j x u h => by simp at h, .inl rfl⟩
    | sl ad _ _ cap _ vs hs hF hD hlt hn hm hl' hc h1 hv =>
      refine ⟨some ad, m, cap, cells, vs, rfl, hk, hl, by rw [hl', hl], h1, hv, .inr ⟨ad, rfl, fun j v hj => ?_⟩⟩
      rw [hc j (List.getElem?_eq_some_iff.1 hj).1, hj]
  · rename_i τ ver off m
    obtain ⟨r, hr, hver, hk⟩ := aRow_out hk
    split at hk
    case isFalse => exact hk.elim
    rename_i hsz
    obtain ⟨⟨hfit, hown⟩, hk⟩ := hk
    rw [List.all_eq_true] at hown
    cases hy with
    | ref _ _ _ _ _ hlt h1 hx =>
      rcases hx r hr hver with ⟨_, rfl, rfl, _⟩ | ⟨g, A, cap, cur, a1, rfl, a3, a4, a5, a6, a7, a8⟩
      · exact ⟨none, 0, 0, _, [], rfl, hk, by simp, by simp, fun v h => by simp at h, fun j x u h => by simp at h, .inl rfl⟩
      · have hat : At D w φ s ⟨g, off, none⟩ ((r.cells.drop off).take (m * z)) := fun j u hu => by
          rw [List.getElem?_take] at hu
          split at hu
          · exact h.at_row hr a1 off j u hu
          · cases hu
        obtain ⟨vs, c1, c2, c3, c4⟩ := values_of hat (fun u hu => by simpa using hown u hu)
        have hlen : ((r.cells.drop off).take (m * z)).length = m * z := by simp; omega
        refine ⟨A, m, cap, _, vs, rfl, hk, hlen, by rw [c1, hlen], c3, c4, ?_⟩
        by_cases hm : m = 0
        · exact .inl hm
        · exact .inr ⟨_, a6 (.inr (by omega)), c2⟩
  · exact hk.elim
theorem run_first {A : Option Addr} {m c z : Nat} {vs : List Value} (hl : vs.length = m * z) (h : m = 0 ∨ ∃ ad, A = some ad ∧ ∀ (j : Nat) (v : Value), vs[j]? = some v → w.cell? (ad.add j) = some v) :
    (Builtin.firstCells z m (.slice A m c)).run P w = .ok vs.toArray w := by
  rcases h with rfl | ⟨ad, rfl, hc⟩
  · have : vs = [] := List.eq_nil_of_length_eq_zero (by simpa using hl)
    subst this
    cases A <;> simp [Builtin.firstCells, loadCells, loadCellsFrom]
  · have := run_loadCells_list (P := P) w ad vs hc
    rw [hl] at this
    simp [Builtin.firstCells, this]
theorem take_toList (cur : Array Value) (n : Nat) (hn : n ≤ cur.size) : (cur.toList.take n).length = n := by simp; omega
theorem aAppend_ok (h : SR D w φ env s) (hK : ∀ g, φ.O g → ¬ K g) (hKl : ∀ b, K b → b < w.heap.size) {t : TypeId} {ty : TypeId} {x y : AV} {xv yv : Value} {k : AV → St → Prop} (hx : VR D w φ s.rows s.ctr xv x) (hy : VR D w φ s.rows s.ctr yv y) (hk : aAppend P s t x y k) :
    Does D s.low P w φ env K (Builtin.append_ #[t, t] ty #[xv, yv]) k := by
  unfold aAppend at hk
  simp only [Row.putC_eq] at hk
  split at hk
  case h_2 => exact hk.elim
  rename_i e hd
  split at hk
  case h_1 => exact hk.elim
  rename_i cs hcs
  have hk0 := aSz_out hk
  clear hk
  obtain ⟨z, hz, hz0, hk⟩ := hk0
  obtain ⟨zv, hzr, rfl, hzz⟩ := zero_run hcs
  have hk1 := elems_ok h hy hk
  clear hk
  obtain ⟨A, m, c, news, vs, rfl, ⟨⟨hlen, hbs, hb0⟩, hk⟩, n1, n2, n3, n4, n5⟩ := hk1
  obtain ⟨b, hb⟩ := Option.isSome_iff_exists.1 hbs
  rw [hb, Option.getD_some] at hb0 hk
  cases hi : P.info? e with
  | none => simp [hi] at hzz
  | some i =>
  simp [hi] at hzz
  have hsz : i.size = z := by simp [tsz, hi] at hz; exact hz
  have hby : i.bytes = b := by simp [bsz, hi] at hb; exact hb
  have hzs : zv.cells.size = z := by simpa using hlen
  have hfirst : (Builtin.firstCells z m (.slice A m c)).run P w = .ok vs.toArray w := run_first n2 n5
  have nothing : ∀ (B : Option Addr) (n cap : Nat), m = 0 → n ≤ cap → (Builtin.append_ #[t, t] ty #[.slice B n cap, .slice A m c]).run P w = .ok (.slice B n cap) w := by
    intro B n cap hm hn
    subst hm
    have hv0 : vs = [] := List.eq_nil_of_length_eq_zero (by simpa using n2)
    subst hv0
    cases B <;> simp [Builtin.append_, run_underlying hd, run_tsz hz, Builtin.lenOf, hfirst, hn, storeCells]
  have grow : ∀ (v : Value) (n : Nat) (xs : List Value), w.ownsRow 0 e z v n xs → 0 < m → (n + m) * b ≤ 140737488355328 →
      ∃ g' cap' cur' w', (Builtin.append_ #[t, t] ty #[v, .slice A m c]).run P w = .ok (.slice (some ⟨g', 0, none⟩) (n + m) cap') w' ∧ w'.heap[g']? = some (.cells cur' e (0, 0)) ∧ n + m ≤ cap' ∧ cap' ≤ maxLen ∧ cur'.size = cap' * z ∧
        cur'.toList.take ((n + m) * z) = xs ++ vs ∧ w.grownBy w' v.ownBlock ∧ (v.ownBlock = some g' ∨ w.heap.size ≤ g') := by
    intro v n xs hown hm hbytes
    obtain ⟨ad, rfl, hc⟩ : ∃ ad, A = some ad ∧ ∀ (j : Nat) (v : Value), vs[j]? = some v → w.cell? (ad.add j) = some v := by
      rcases n5 with h0 | h0
      · omega
      · exact h0
    have hnm : n + m ≤ maxLen := by
      have : n + m ≤ (n + m) * b := Nat.le_mul_of_pos_right _ (by omega)
      simp only [maxLen]; omega
    obtain ⟨v', w', r1, r2, r3, r4, r5⟩ := run_append_own_at (P := P) w 0 t ty e i zv z b hd hi hzz hsz hby hzs (by omega) v n xs hown ad m c vs n2 hc n3 hnm hbytes (Nat.zero_le _)
    obtain ⟨_, hcase⟩ := r2
    rcases hcase with ⟨_, h0⟩ | ⟨g', cap', cur', rfl, _, d1, d2, d3, d4, d5⟩
    · omega
    · refine ⟨g', cap', cur', w', r1, d1, d2, d3, d4, d5, r3, ?_⟩
      rcases r5 with r5 | r5
      · exact .inl r5.symm
      · simp only [Value.ownBlock, Option.some.injEq] at r5
        exact .inr (Nat.le_of_eq r5.symm)
  have keeps : ∀ {w' : World} {ob : Option Nat}, w.grownBy w' ob → (∀ g, ob = some g → ¬ K g) → Keeps K w w' := fun hg ho =>
    ⟨hg.os, hg.tape, hg.output, hg.size, fun x hx => hg.block x (hKl x hx) (fun e' => ho x e'.symm hx)⟩
  split at hk
  · -- nil
    cases hx with
    | nil =>
    obtain ⟨k0, k1⟩ := hk
    by_cases hm : m = 0
    · exact ⟨_, .nil, w, φ, s, nothing _ _ _ hm (Nat.le_refl _), h, .nil, Keeps.refl _ _, fun g hg => .inl hg, Lows.refl _ _ _, rfl, k0 hm⟩
    · obtain ⟨hbytes, k1⟩ := k1 (by omega)
      obtain ⟨g', cap', cur', w', r1, d1, d2, d3, d4, d5, d6, d7⟩ := grow (.slice none 0 0) 0 [] ⟨by simp, .inl ⟨rfl, rfl⟩⟩ (by omega) (by simpa using hbytes)
      simp only [Nat.zero_add, List.nil_append] at r1 d2 d5
      have hge : w.heap.size ≤ g' := by
        rcases d7 with d7 | d7
        · simp [Value.ownBlock] at d7
        · exact d7
      have hext : Ext w w' := ⟨d6.size, fun b hb => d6.block b hb (by simp [Value.ownBlock])⟩
      have hmk : m * z ≤ cur'.size := by rw [d4]; exact Nat.mul_le_mul_right z d2
      have hvs : ∀ j, j < m * z → cur'[j]? = vs[j]? := fun j hj => by
        rw [← d5, List.getElem?_take, if_pos hj]; simp
      have m0 : Mv w φ s.rows s.ctr w' (φ.snoc (some g')) (s.rows ++ [⟨s.ctr, e, z, news⟩]) (s.ctr + 1) := by
        have hlen' := h.len
        refine ⟨hext.sz, by omega, fun b hb hF => ⟨?_, hext.bl b hb⟩, fun t r' hr' hlt => ?_⟩
        · rintro (h1 | h1)
          · exact hF h1
          · cases h1; omega
        · rw [getElem?_snoc] at hr'
          split at hr'
          · refine ⟨r', hr', rfl, rfl, rfl, ?_, fun g cur hg hc => ⟨cur, ?_, rfl⟩⟩
            · rw [snoc_l, List.getElem?_append_left (by omega)]
            · rw [hext.bl g (lt_of_heap hc)]; exact hc
          · split at hr'
            · cases hr'; exact absurd hlt (Nat.lt_irrefl _)
            · cases hr'
      obtain ⟨s1, s2⟩ := h.push (w' := w') (r := ⟨s.ctr, e, z, news⟩) (ob := some g') rfl hext (fun g hg => by cases hg; exact ⟨hge, lt_of_heap d1⟩)
        ⟨cur', d1, by simp only; omega, fun _ _ => rfl, fun j u hu => by
          have hj : j < m * z := by rw [← n1]; exact (List.getElem?_eq_some_iff.1 hu).1
          have hx : vs[j]? = some (vs[j]'(by omega)) := List.getElem?_eq_getElem _
          exact ⟨_, by rw [hvs j hj]; exact hx, n3 _ (List.getElem_mem _), .vr _ _ ((n4 j _ u hx hu).mv m0)⟩⟩ (fun e' => absurd e' hz0)
      refine ⟨_, _, w', _, _, r1, s1, .ref _ _ _ _ _ (by simp [St.push]) rfl fun r hr hver => ?_, keeps d6 (fun g hg => by simp [Value.ownBlock] at hg), fun g hg => ?_, Lows.new (fun i hi => List.getElem?_append_left (by have h1 := h.lo; have h2 := h.len; omega)) (fun b hb => hext.bl b hb), rfl, k1⟩
      · have : r = ⟨s.ctr, e, z, news⟩ := by
          simp only [St.push] at hr; rw [getElem?_snoc] at hr; simp at hr; exact hr.symm
        subst this
        exact .inr ⟨g', _, cap', cur', by rw [← h.len]; simp [Places.snoc], rfl, d2, d3, d1, fun _ => rfl, fun _ => d4, by simp only; omega⟩
      · rcases hg with hg | hg
        · exact .inl hg
        · cases hg; exact .inr hge
  · -- a row of the call's own
    rename_i τ ver off n
    have hk0 := aRow_out hk
    clear hk
    obtain ⟨r, hr, hver, hk⟩ := hk0
    split at hk
    case isFalse => exact hk.elim
    rename_i hoff
    obtain ⟨rfl, hsize⟩ := hoff
    obtain ⟨hnz, k0, k1, k2⟩ := hk
    cases hx with
    | ref _ _ _ _ _ hlt h1 hx =>
    have hx0 := hx
    have hxr := hx r hr hver
    by_cases hm : m = 0
    · rcases hxr with ⟨_, rfl, rfl, _⟩ | ⟨g, B, cap, cur, a1, rfl, a3, a4, a5, a6, a7, a8⟩
      · exact ⟨_, _, w, φ, s, nothing _ _ _ hm (Nat.le_refl _), h, .ref τ ver 0 0 _ hlt h1 hx0, Keeps.refl _ _, fun g hg => .inl hg, Lows.refl _ _ _, rfl, k0 hm⟩
      · exact ⟨_, _, w, φ, s, nothing _ _ _ hm a3, h, .ref τ ver 0 n _ hlt h1 hx0, Keeps.refl _ _, fun g hg => .inl hg, Lows.refl _ _ _, rfl, k0 hm⟩
    · have hm' : 0 < m := by omega
      by_cases hfit : (n + m) * z ≤ r.cells.length
      · -- it fits in what is known of the row
        have k1 := k1 hm' hfit
        rcases hxr with ⟨a1, rfl, rfl, _⟩ | ⟨g, B, cap, cur, a1, rfl, a3, a4, a5, a6, a7, a8⟩
        · exfalso
          obtain ⟨ω, hnest⟩ := h.nest
          have h0 : r.cells.length = 0 := by rw [(hnest.row τ r none hr a1).1]; rfl
          have : 1 ≤ (0 + m) * z := Nat.mul_pos (by omega) (by omega)
          omega
        · have hB := a6 (.inl rfl); subst hB
          obtain ⟨cur0, c1, c2, c3⟩ := h.cur hr a1
          rw [a5] at c1; cases c1
          have hrz : r.size = z := by
            rcases hsize with h0 | h0
            · exfalso
              have := h.sz0 τ r hr h0
              rw [a1] at this; cases this
            · exact h0.2
          have hcap : n + m ≤ cap := by
            have := a7 rfl
            rw [hrz] at this
            have h2 : (n + m) * z ≤ cap * z := by omega
            exact Nat.le_of_mul_le_mul_right h2 (by omega)
          have hnews : n * z + news.length ≤ r.cells.length := by rw [n1, ← Nat.add_mul]; exact hfit
          obtain ⟨b1, b2, b3, b4, b5⟩ := write_row (P := P) (off := n * z) (vs := vs) (us := news) h hK hr a1 (by omega) hnews n3 n4
          have hrun : (Builtin.append_ #[t, t] ty #[.slice (some ⟨g, 0, none⟩) n cap, .slice A m c]).run P w = .ok (.slice (some ⟨g, 0, none⟩) (n + m) cap) (w.setCells g (n * z) vs) := by
            have hadd : (⟨g, 0, none⟩ : Addr).add (n * z) = ⟨g, n * z, none⟩ := by rw [add_mk, Nat.zero_add]
            simp [Builtin.append_, run_underlying hd, run_tsz hz, Builtin.lenOf, hfirst, hcap, hadd, b1]
          refine ⟨_, _, _, φ, _, hrun, b2, .ref τ ver 0 (n + m) _ hlt rfl fun r' hr' hver' => ?_, b3, fun g hg => .inl hg, b5, rfl, k1⟩
          have : r' = { r with cells := r.cells.take (n * z) ++ (news ++ r.cells.drop (n * z + news.length)) } := by
            have ht : τ < s.rows.length := (List.getElem?_eq_some_iff.1 hr).1
            simp only [St.setRow] at hr'
            rw [List.getElem?_set] at hr'
            simp [ht] at hr'
            exact hr'.symm
          subst this
          obtain ⟨e1, _, _, _, _, _⟩ := heap_setCells vs w g (n * z) cur r.ety (0, 0) a5
          refine .inr ⟨g, _, cap, spliceA cur (n * z) vs, a1, rfl, hcap, a4, e1, fun _ => rfl, fun _ => by rw [spliceA_size]; exact a7 rfl, ?_⟩
          rw [spliceA_size]
          simp only [hrz]
          omega
      · -- it grows
        obtain ⟨hlow, hbytes, k2⟩ := k2 hm' (by omega)
        obtain ⟨ob, xs, cur, hob, hcurw, hown, hobw, hxs, hxl⟩ : ∃ (ob : Option Nat) (xs : List Value) (cur : Array Value), φ.l[τ]? = some ob ∧ (∀ g, ob = some g → w.heap[g]? = some (.cells cur r.ety (0, 0))) ∧ w.ownsRow 0 e z xv n xs ∧ xv.ownBlock = ob ∧
            (∀ (j : Nat) (u : AV), (r.cells.take (n * z))[j]? = some u → ∃ v, xs[j]? = some v ∧ v.oneCell' = true ∧ r.cells[j]? = some u ∧ cur[j]? = some v) ∧ xs.length = n * z := by
          rcases hxr with ⟨a1, rfl, rfl, _⟩ | ⟨g, B, cap, cur, a1, rfl, a3, a4, a5, a6, a7, a8⟩
          · exact ⟨none, [], #[], a1, fun g hg => (by cases hg), ⟨by simp, .inl ⟨rfl, rfl⟩⟩, rfl, fun j u hu => by simp at hu, by simp⟩
          · have hB := a6 (.inl rfl); subst hB
            obtain ⟨cur0, c1, c2, c3⟩ := h.cur hr a1
            rw [a5] at c1; cases c1
            have hrz : r.ety = e ∧ r.size = z := by
              rcases hsize with h0 | h0
              · exfalso
                have := h.sz0 τ r hr h0
                rw [a1] at this; cases this
              · exact h0
            have a7' := a7 rfl
            rw [hrz.2] at a7'
            refine ⟨some g, cur.toList.take (n * z), cur, a1, (fun g' hg' => by cases hg'; exact a5), ⟨take_toList cur _ (by omega), .inr ⟨g, cap, cur, rfl, Nat.zero_le _, by rw [← hrz.1]; exact a5, a3, a4, a7', rfl⟩⟩, rfl, fun j u hu => ?_, take_toList cur _ (by omega)⟩
            rw [List.getElem?_take] at hu
            split at hu
            · rename_i hj
              obtain ⟨v, e1, e2, _⟩ := c3 j u hu
              exact ⟨v, by rw [List.getElem?_take, if_pos hj]; simpa using e1, e2, hu, e1⟩
            · cases hu
        obtain ⟨g', cap', cur', w', r1, d1, d2, d3, d4, d5, d6, d7⟩ := grow xv n xs hown hm' hbytes
        have hge : ob = some g' ∨ w.heap.size ≤ g' := by rw [← hobw]; exact d7
        have hmk : (n + m) * z ≤ cur'.size := by rw [d4]; exact Nat.mul_le_mul_right z d2
        have hlen' : (r.cells.take (n * z) ++ news).length = (n + m) * z := by
          rw [List.length_append, n1, Nat.add_mul]; simp; omega
        obtain ⟨s1, s2⟩ := h.reRow (r' := ⟨s.ctr, e, z, r.cells.take (n * z) ++ news⟩) (w' := w') (cur := cur) hr hob rfl hz0 hcurw hge (lt_of_heap d1) d1 d6.size (fun b hb hne => d6.block b hb (by rw [hobw]; exact hne)) (by simp only; omega) (fun j u hu => by
          simp only at hu
          have hj : j < (n + m) * z := by rw [← hlen']; exact (List.getElem?_eq_some_iff.1 hu).1
          have hcur : cur'[j]? = (xs ++ vs)[j]? := by rw [← d5, List.getElem?_take, if_pos hj]; simp
          rw [hcur]
          have hlt1 : (r.cells.take (n * z)).length = n * z := by simp; omega
          by_cases hj1 : j < n * z
          · rw [List.getElem?_append_left (by omega)] at hu
            obtain ⟨v, e1, e2, e3, e4⟩ := hxs j u hu
            exact ⟨v, by rw [List.getElem?_append_left (by omega)]; exact e1, e2, .inr ⟨e3, e4⟩⟩
          · rw [List.getElem?_append_right (by omega), hlt1] at hu
            have hjn : j - n * z < m * z := by rw [← n1]; exact (List.getElem?_eq_some_iff.1 hu).1
            have hx : vs[j - n * z]? = some (vs[j - n * z]'(by omega)) := List.getElem?_eq_getElem _
            exact ⟨_, by rw [List.getElem?_append_right (by omega), hxl]; exact hx, n3 _ (List.getElem_mem _), .inl (n4 _ _ u hx hu)⟩)
        refine ⟨_, _, w', _, _, r1, s1, .ref _ _ _ _ _ (by simp) rfl fun r' hr' hver' => ?_, keeps d6 (fun g hg => hK g (h.occ g (List.mem_of_getElem? (by rw [hob, ← hobw, hg])))), fun g hg => ?_, ⟨fun i hi => by simp only; rw [List.getElem?_set, if_neg (by omega)], fun i g cur t hi hg hc => ⟨cur, ?_, rfl⟩⟩, rfl, k2⟩
        · have ht : τ < s.rows.length := (List.getElem?_eq_some_iff.1 hr).1
          have htφ : τ < φ.l.length := (List.getElem?_eq_some_iff.1 hob).1
          have : r' = ⟨s.ctr, e, z, r.cells.take (n * z) ++ news⟩ := by
            simp only at hr'
            rw [List.getElem?_set] at hr'
            simp [ht] at hr'
            exact hr'.symm
          subst this
          exact .inr ⟨g', _, cap', cur', by simp only; rw [List.getElem?_set]; simp [htφ], rfl, d2, d3, d1, fun _ => rfl, fun _ => d4, by simp only; omega⟩
        · rcases hg with hg | hg
          · exact .inl hg
          · subst hg
            rcases hge with hge | hge
            · exact .inl (h.occ g (List.mem_of_getElem? (by rw [hob, hge])))
            · exact .inr hge
        · rw [d6.block g (lt_of_heap hc) (fun e' => ?_)]
          · exact hc
          · have := h.inj i τ g hg (by rw [hob, ← hobw, ← e'])
            omega
  · exact hk.elim
end
end Go.Am
