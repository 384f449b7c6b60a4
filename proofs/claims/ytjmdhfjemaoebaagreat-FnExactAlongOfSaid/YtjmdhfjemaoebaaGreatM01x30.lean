import Derived.Test.YtjmdhfjemaoebaaGreatM01x29
import Derived.Test.YtjmdhfjemaoebaaGreatM01x27
import Derived.Test.YtjmdhfjemaoebaaGreatM01x12
import Derived.Test.YtjmdhfjemaoebaaGreatM01x26
namespace Go.Proofs.YtjmdhfjemaoebaaGreat
set_option maxRecDepth 20000
open Go.RowKit Go.Am
set_option linter.unusedSimpArgs false
def hbK (x : Nd) : Prop := x.op = 0 ∨ x.op = 1 ∨ x.op = 9 ∨ x.op = 11
instance (x : Nd) : Decidable (hbK x) := by unfold hbK; infer_instance
def vS (x : Nd) (sh : List Int) (ts vs : List T2) : List Int × List Int :=
  if x.op = 0 then (sh, (ts.getD x.a.toNat ([], [])).2) else if x.op = 1 then (sh, [x.a])
  else if x.op = 6 then ((negM (vs.getD x.a.toNat ([], [])).1 (vs.getD x.a.toNat ([], [])).2).1, (negM (vs.getD x.a.toNat ([], [])).1 (vs.getD x.a.toNat ([], [])).2).2.1)
  else if x.op = 7 then (wo (vs.getD x.a.toNat ([], [])).1 (x.l.getD (Int.toNat 0) 0).toNat, smTo (vs.getD x.a.toNat ([], [])).1 (vs.getD x.a.toNat ([], [])).2 (x.l.getD (Int.toNat 0) 0).toNat (vs.getD x.a.toNat ([], [])).2.length)
  else if x.op = 8 then (turned (vs.getD x.a.toNat ([], [])).1 x.l, rdL (vs.getD x.a.toNat ([], [])).2 (turned (vs.getD x.a.toNat ([], [])).1 x.l) (turned (strides (vs.getD x.a.toNat ([], [])).1) x.l) 0)
  else if x.op = 9 then (sh, (vs.getD x.a.toNat ([], [])).2)
  else if x.op = 10 then (cutSh (vs.getD x.a.toNat ([], [])).1 (x.l.getD (Int.toNat 0) 0).toNat (x.l.getD (Int.toNat 2) 0), rdL (vs.getD x.a.toNat ([], [])).2 (cutSh (vs.getD x.a.toNat ([], [])).1 (x.l.getD (Int.toNat 0) 0).toNat (x.l.getD (Int.toNat 2) 0)) (strides (vs.getD x.a.toNat ([], [])).1) (x.l.getD (Int.toNat 1) 0 * (strides (vs.getD x.a.toNat ([], [])).1).getD (x.l.getD (Int.toNat 0) 0).toNat 0))
  else if x.op = 11 then (sh, bsL (vs.getD x.a.toNat ([], [])).1 (vs.getD x.a.toNat ([], [])).2 (vs.getD x.b.toNat ([], [])).2 (x.l.getD (Int.toNat 0) 0).toNat ((vs.getD x.b.toNat ([], [])).1.getD (x.l.getD (Int.toNat 0) 0).toNat 0))
  else if x.op = 12 then ([(vs.getD x.a.toNat ([], [])).1.getD 0 0, (vs.getD x.b.toNat ([], [])).1.getD 1 0], prL (vs.getD x.a.toNat ([], [])).2 (vs.getD x.b.toNat ([], [])).2 ((vs.getD x.a.toNat ([], [])).1.getD 0 0).toNat ((vs.getD x.a.toNat ([], [])).1.getD 1 0).toNat ((vs.getD x.b.toNat ([], [])).1.getD 1 0).toNat)
  else (jL (vs.getD x.a.toNat ([], [])).1 (vs.getD x.b.toNat ([], [])).1, twoL (x.op - 2) (sprd (vs.getD x.a.toNat ([], [])).1 (vs.getD x.a.toNat ([], [])).2 (jL (vs.getD x.a.toNat ([], [])).1 (vs.getD x.b.toNat ([], [])).1)) (sprd (vs.getD x.b.toNat ([], [])).1 (vs.getD x.b.toNat ([], [])).2 (jL (vs.getD x.a.toNat ([], [])).1 (vs.getD x.b.toNat ([], [])).1)))
theorem getD_fst (ts : List T2) (i : Nat) : (ts.map Prod.fst).getD i [] = (ts.getD i ([], [])).1 := by
  simp only [List.getD, List.getElem?_map]
  cases ts[i]? <;> rfl
def lPre (x : Nd) (sh : List Int) (ts vs : List T2) : Prop := vPre x ts vs ∧ kOk x (vs.map Prod.fst) ∧ sh = kL x (vs.map Prod.fst) (ts.map Prod.fst)
structure LFacts (x : Nd) (sh : List Int) (ts vs : List T2) : Prop where
  op : 0 ≤ x.op ∧ x.op ≤ 12
  i0 : x.op = 0 → (0 ≤ x.a ∧ x.a < ts.length) ∧ tensorOk (ts.getD x.a.toNat ([], [])).1 (ts.getD x.a.toNat ([], [])).2 = true ∧ sh = (ts.getD x.a.toNat ([], [])).1
  i1 : x.op = 1 → (-9 ≤ x.a ∧ x.a ≤ 9) ∧ sh = []
  ia : 2 ≤ x.op → (0 ≤ x.a ∧ x.a < vs.length) ∧ tensorOk (vs.getD x.a.toNat ([], [])).1 (vs.getD x.a.toNat ([], [])).2 = true
  ib : (2 ≤ x.op ∧ x.op ≤ 5) ∨ 11 ≤ x.op → (0 ≤ x.b ∧ x.b < vs.length) ∧ tensorOk (vs.getD x.b.toNat ([], [])).1 (vs.getD x.b.toNat ([], [])).2 = true
  two : 2 ≤ x.op ∧ x.op ≤ 5 → jOk (vs.getD x.a.toNat ([], [])).1 (vs.getD x.b.toNat ([], [])).1 = true
  sum : x.op = 7 → x.l.length = 1 ∧ 0 ≤ x.l.getD (Int.toNat 0) 0 ∧ x.l.getD (Int.toNat 0) 0 < (vs.getD x.a.toNat ([], [])).1.length
  turn : x.op = 8 → turnOk x.l (vs.getD x.a.toNat ([], [])).1.length = true
  fold : x.op = 9 → countOf x.l = (vs.getD x.a.toNat ([], [])).2.length ∧ sh = x.l
  cut : x.op = 10 → x.l.length = 3 ∧ cutP (vs.getD x.a.toNat ([], [])).1 (vs.getD x.a.toNat ([], [])).2 (x.l.getD (Int.toNat 0) 0) (x.l.getD (Int.toNat 1) 0) (x.l.getD (Int.toNat 2) 0)
  bes : x.op = 11 → x.l.length = 1 ∧ bsP (vs.getD x.a.toNat ([], [])).1 (vs.getD x.a.toNat ([], [])).2 (vs.getD x.b.toNat ([], [])).1 (vs.getD x.b.toNat ([], [])).2 (x.l.getD (Int.toNat 0) 0) ∧ sh = bsSh (vs.getD x.a.toNat ([], [])).1 (x.l.getD (Int.toNat 0) 0).toNat ((vs.getD x.b.toNat ([], [])).1.getD (x.l.getD (Int.toNat 0) 0).toNat 0)
  prod : x.op = 12 → prP (vs.getD x.a.toNat ([], [])).1 (vs.getD x.a.toNat ([], [])).2 (vs.getD x.b.toNat ([], [])).1 (vs.getD x.b.toNat ([], [])).2
theorem l_facts {x : Nd} {sh : List Int} {ts vs : List T2} (h : lPre x sh ts vs) : LFacts x sh ts vs := by
  obtain ⟨⟨⟨f1, f2, f3, f4, f5, f6, f7⟩, hts, hvs, hxl, hwf⟩, hk, hs⟩ := h
  have eA : shA x (vs.map Prod.fst) = (vs.getD x.a.toNat ([], [])).1 := getD_fst _ _
  have eB : shB x (vs.map Prod.fst) = (vs.getD x.b.toNat ([], [])).1 := getD_fst _ _
  unfold lsP at f2
  unfold kOk at hk
  rw [eA, eB] at hk
  have ia : 2 ≤ x.op → (0 ≤ x.a ∧ x.a < vs.length) ∧ tensorOk (vs.getD x.a.toNat ([], [])).1 (vs.getD x.a.toNat ([], [])).2 = true := fun h => ⟨f6 h, hvs _ (by have := f6 h; omega)⟩
  have ib : (2 ≤ x.op ∧ x.op ≤ 5) ∨ 11 ≤ x.op → (0 ≤ x.b ∧ x.b < vs.length) ∧ tensorOk (vs.getD x.b.toNat ([], [])).1 (vs.getD x.b.toNat ([], [])).2 = true := fun h => ⟨f7 h, hvs _ (by have := f7 h; omega)⟩
  refine ⟨f1, fun o => ⟨f4 o, hts _ (by have := f4 o; omega), ?_⟩, fun o => ⟨f5 o, ?_⟩, ia, ib, fun o => ?_, fun o => ⟨by omega, ?_⟩, fun o => ?_, fun o => ⟨?_, ?_⟩, fun o => ⟨by omega, ?_⟩, fun o => ⟨by omega, ?_⟩, fun o => ?_⟩
  · rw [hs, ← getD_fst]; simp [kL, o]
  · rw [hs]; simp [kL, o]
  · rcases hk with h | h | h | h | h | h | h | h | h
    · omega
    · omega
    · exact h.2.2
    all_goals (exfalso; have := h.1; omega)
  · rcases hk with h | h | h | h | h | h | h | h | h
    · omega
    · omega
    · omega
    · exact h.2
    all_goals (exfalso; have := h.1; omega)
  · rcases hk with h | h | h | h | h | h | h | h | h
    · omega
    · omega
    · omega
    · have := h.1; omega
    · have := h.2; unfold tsOk at this; rw [Bool.and_eq_true] at this; exact this.2
    all_goals (exfalso; have := h.1; omega)
  · rcases hk with h | h | h | h | h | h | h | h | h
    · omega
    · omega
    · omega
    · have := h.1; omega
    · have := h.1; omega
    · rw [h.2]; exact ((tensorOk_iff _ _).1 (ia (by omega)).2).2.1.symm
    all_goals (exfalso; have := h.1; omega)
  · rw [hs]; simp [kL, o]
  · rcases hk with h | h | h | h | h | h | h | h | h
    · omega
    · omega
    · omega
    · have := h.1; omega
    · have := h.1; omega
    · have := h.1; omega
    · obtain ⟨-, c1, c2, c3, c4⟩ := h
      exact ⟨(ia (by omega)).2, c1, c3, c2.1, by omega⟩
    all_goals (exfalso; have := h.1; omega)
  · rcases hk with h | h | h | h | h | h | h | h | h
    · omega
    · omega
    · omega
    · have := h.1; omega
    · have := h.1; omega
    · have := h.1; omega
    · have := h.1; omega
    · obtain ⟨-, hb⟩ := h
      have hL : sh = bsSh (vs.getD x.a.toNat ([], [])).1 (x.l.getD (Int.toNat 0) 0).toNat ((vs.getD x.b.toNat ([], [])).1.getD (x.l.getD (Int.toNat 0) 0).toNat 0) := by
        rw [hs]
        have : kL x (vs.map Prod.fst) (ts.map Prod.fst) = bshL (shA x (vs.map Prod.fst)) (shB x (vs.map Prod.fst)) (x.l.getD (Int.toNat 0) 0) := by simp [kL, o]
        rw [this, eA, eB]
        exact if_pos hb
      obtain ⟨h1, h2, h3, h4⟩ := hb
      exact ⟨⟨(ia (by omega)).2, (ib (by omega)).2, h2, (wo_eq h1 (by omega)).1 h3, h4⟩, hL⟩
    · have := h.1; omega
  · rcases hk with h | h | h | h | h | h | h | h | h
    · omega
    · omega
    · omega
    · have := h.1; omega
    · have := h.1; omega
    · have := h.1; omega
    · have := h.1; omega
    · have := h.1; omega
    · exact ⟨(ia (by omega)).2, (ib (by omega)).2, h.2.1, h.2.2.1, h.2.2.2⟩
theorem vS_told {x : Nd} {sh : List Int} {ts vs : List T2} (hp : lPre x sh ts vs) : told (vS x sh ts vs).1 (vS x sh ts vs).2 = vlM x ts vs := by
  have F := l_facts hp
  have hv := hp.1
  have fin : ∀ {a b : List Int}, vlM x ts vs = (a, b, true) → vS x sh ts vs = (a, b) → told (vS x sh ts vs).1 (vS x sh ts vs).2 = vlM x ts vs := fun {a b} e1 e2 => by
    have := vlM_ok hv (by rw [e1])
    rw [e1] at this
    rw [e2, e1]; exact told_t this
  have hop := F.op
  by_cases o0 : x.op = 0
  · obtain ⟨-, -, e⟩ := F.i0 o0
    exact fin (if_pos o0) (by rw [← e]; exact if_pos o0)
  · by_cases o1 : x.op = 1
    · obtain ⟨-, e⟩ := F.i1 o1
      exact fin (by unfold vlM; rw [if_neg o0, if_pos o1]) (by unfold vS; rw [if_neg o0, if_pos o1, e])
    · have ha := F.ia (by omega)
      have eM : vlM x ts vs = comM x (vs.getD x.a.toNat ([], [])).1 (vs.getD x.a.toNat ([], [])).2 (vs.getD x.b.toNat ([], [])).1 (vs.getD x.b.toNat ([], [])).2 := by unfold vlM; rw [if_neg o0, if_neg o1]
      by_cases o6 : x.op = 6
      · have e : negM (vs.getD x.a.toNat ([], [])).1 (vs.getD x.a.toNat ([], [])).2 = ((vs.getD x.a.toNat ([], [])).1, (vs.getD x.a.toNat ([], [])).2.map (fun z => -z), true) := if_pos ha.2
        exact fin (by rw [eM, ← e]; simp [comM, o6]) (by unfold vS; rw [if_neg o0, if_neg o1, if_pos o6, e])
      · by_cases o7 : x.op = 7
        · have hs := F.sum o7
          have e : sumM (vs.getD x.a.toNat ([], [])).1 (vs.getD x.a.toNat ([], [])).2 (x.l.getD (Int.toNat 0) 0) = told (vS x sh ts vs).1 (vS x sh ts vs).2 := by
            have : vS x sh ts vs = (wo (vs.getD x.a.toNat ([], [])).1 (x.l.getD (Int.toNat 0) 0).toNat, smTo (vs.getD x.a.toNat ([], [])).1 (vs.getD x.a.toNat ([], [])).2 (x.l.getD (Int.toNat 0) 0).toNat (vs.getD x.a.toNat ([], [])).2.length) := by unfold vS; rw [if_neg o0, if_neg o1, if_neg o6, if_pos o7]
            rw [this]; exact if_pos ⟨ha.2, hs.2⟩
          rw [← e, eM]; simp [comM, o7]
        · by_cases o8 : x.op = 8
          · have e := turnM_t ha.2 (F.turn o8)
            exact fin (by rw [eM, ← e]; simp [comM, o8]) (by unfold vS; rw [if_neg o0, if_neg o1, if_neg o6, if_neg o7, if_pos o8])
          · by_cases o9 : x.op = 9
            · have hf := F.fold o9
              have e := fold_t ha.2 hf.1
              exact fin (by rw [eM, ← e]; simp [comM, o9]) (by unfold vS; rw [if_neg o0, if_neg o1, if_neg o6, if_neg o7, if_neg o8, if_pos o9, hf.2])
            · by_cases o10 : x.op = 10
              · have hc := (F.cut o10).2
                have e : cutM (vs.getD x.a.toNat ([], [])).1 (vs.getD x.a.toNat ([], [])).2 (x.l.getD (Int.toNat 0) 0) (x.l.getD (Int.toNat 1) 0) (x.l.getD (Int.toNat 2) 0) = _ := if_pos hc
                exact fin (by rw [eM, ← e]; simp [comM, o10]) (by unfold vS; rw [if_neg o0, if_neg o1, if_neg o6, if_neg o7, if_neg o8, if_neg o9, if_pos o10])
              · by_cases o11 : x.op = 11
                · have hb := F.bes o11
                  have e : bsM (vs.getD x.a.toNat ([], [])).1 (vs.getD x.a.toNat ([], [])).2 (vs.getD x.b.toNat ([], [])).1 (vs.getD x.b.toNat ([], [])).2 (x.l.getD (Int.toNat 0) 0) = _ := if_pos hb.2.1
                  exact fin (by rw [eM, ← e]; simp [comM, o11]) (by unfold vS; rw [if_neg o0, if_neg o1, if_neg o6, if_neg o7, if_neg o8, if_neg o9, if_neg o10, if_pos o11, hb.2.2])
                · by_cases o12 : x.op = 12
                  · have e := prM_t (F.prod o12)
                    have ev : vS x sh ts vs = ([(vs.getD x.a.toNat ([], [])).1.getD 0 0, (vs.getD x.b.toNat ([], [])).1.getD 1 0], prL (vs.getD x.a.toNat ([], [])).2 (vs.getD x.b.toNat ([], [])).2 ((vs.getD x.a.toNat ([], [])).1.getD 0 0).toNat ((vs.getD x.a.toNat ([], [])).1.getD 1 0).toNat ((vs.getD x.b.toNat ([], [])).1.getD 1 0).toNat) := by unfold vS; rw [if_neg o0, if_neg o1, if_neg o6, if_neg o7, if_neg o8, if_neg o9, if_neg o10, if_neg o11, if_pos o12]
                    rw [ev, eM]
                    show told [_, _] (prL _ _ _ _ _) = _
                    rw [← e]; simp [comM, o12]
                  · have hop2 : 2 ≤ x.op ∧ x.op ≤ 5 := by omega
                    have hw : IntKind.i64.wrap (IntKind.i64.wrap (x.op - 2) + 0) = x.op - 2 := by
                      rw [IntWalk.i64_in (x.op - 2) (by omega), Int.add_zero, IntWalk.i64_in _ (by omega)]
                    have e := twoM_t (op := x.op - 2) (xs := (vs.getD x.a.toNat ([], [])).1) (zs := (vs.getD x.a.toNat ([], [])).2) (ps := (vs.getD x.b.toNat ([], [])).1) (qs := (vs.getD x.b.toNat ([], [])).2) ⟨ha.2, (F.ib (.inl hop2)).2, by omega, F.two hop2⟩
                    have ev : vS x sh ts vs = (jL (vs.getD x.a.toNat ([], [])).1 (vs.getD x.b.toNat ([], [])).1, twoL (x.op - 2) (sprd (vs.getD x.a.toNat ([], [])).1 (vs.getD x.a.toNat ([], [])).2 (jL (vs.getD x.a.toNat ([], [])).1 (vs.getD x.b.toNat ([], [])).1)) (sprd (vs.getD x.b.toNat ([], [])).1 (vs.getD x.b.toNat ([], [])).2 (jL (vs.getD x.a.toNat ([], [])).1 (vs.getD x.b.toNat ([], [])).1))) := by unfold vS; rw [if_neg o0, if_neg o1, if_neg o6, if_neg o7, if_neg o8, if_neg o9, if_neg o10, if_neg o11, if_neg o12]
                    rw [ev, eM]
                    show told (jL _ _) (twoL _ _ _) = _
                    rw [← e]
                    have : comM x (vs.getD x.a.toNat ([], [])).1 (vs.getD x.a.toNat ([], [])).2 (vs.getD x.b.toNat ([], [])).1 (vs.getD x.b.toNat ([], [])).2 = twoM (IntKind.i64.wrap (IntKind.i64.wrap (x.op - 2) + 0)) (vs.getD x.a.toNat ([], [])).1 (vs.getD x.a.toNat ([], [])).2 (vs.getD x.b.toNat ([], [])).1 (vs.getD x.b.toNat ([], [])).2 := by
                      unfold comM; rw [if_neg o6, if_neg o7, if_neg o8, if_neg o9, if_neg o10, if_neg o11, if_neg o12]
                    rw [this, hw]
end Go.Proofs.YtjmdhfjemaoebaaGreat
namespace Go.Am
open Go.RowKit
def Held (p : Prop) : Prop := p
theorem held_in {P : Program} {f : FuncId} {s : St} {a : List AV} {k : AV → St → Prop} (h : Held (CallG P f s a k)) : CallG P f s a k := h
theorem held_out {p : Prop} (h : p) : Held p := h
theorem callG_tree {P : Program} {f : FuncId} {s : St} {args us : List AV} {k : AV → St → Prop} (h1 : callArgs s [] [] args = some us) (h : CallB P f s us k) : CallG P f s args k := by
  obtain ⟨sp, hs, hio, x, rfl, hins, hpre, hk⟩ := h
  refine callG_x ⟨[], sp, hs, sp.args x, [], List.nodup_nil, by rw [hio]; exact h1, rfl, x, rfl, hins.symm, hpre, fun r ic news hp hic => ?_⟩
  have : ic = [] := List.eq_nil_of_length_eq_zero (by simpa using hic)
  subst this
  exact hk r news hp
theorem to_swap {s s' : St} (i j : Nat) (bs : List Bool) (ri rj : Row) (hi : s.rows[i]? = some ri) (hj : s.rows[j]? = some rj) (hne : i ≠ j) (hli : s.low ≤ i) (hlj : s.low ≤ j)
    (h : (s.swapAt i j bs ri rj).to s') : s.to s' := by
  obtain ⟨s1, h1, h2⟩ := h
  exact ⟨s1, .swap s s1 i j bs ri rj hi hj hne hli hlj h1, h2⟩
theorem to_open {s s' : St} (τ j : Nat) (r : Row) (e : TypeId) (z n : Nat) (cs : List AV) (hr : s.rows[τ]? = some r) (hc : r.cells[j]? = some (.own e z n cs))
    (h : (s.openAt τ j r e z n cs).to s') : s.to s' := by
  obtain ⟨s1, h1, h2⟩ := h
  exact ⟨s1, .opn s s1 τ j r e z n cs hr hc h1, h2⟩
abbrev ML := List (Nat × List Int)
def mlC (x : Nat × List Int) : AV := slI x.1 x.2
theorem mlC_pure (x : Nat × List Int) : (mlC x).pure = true := slI_pure _ _
theorem pureL_ml (M : ML) : pureL (M.map mlC) = true := pureL_map mlC_pure _
theorem get_ml_n {k : Nat} {M : ML} {K : AV → Prop} (h : k < M.length) (hK : K (mlC (M.getD k (0, [])))) : aGet ((M.map mlC).drop ((k : Int).toNat * 1)) 0 K := get_map _ (by simp) h hK
theorem get_ml {i : Int} {M : ML} {K : AV → Prop} (h : 0 ≤ i ∧ i < M.length) (hK : K (mlC (M.getD i.toNat (0, [])))) : aGet ((M.map mlC).drop (i.toNat * 1)) 0 K := get_map _ (by simp) (by omega) hK
theorem tr_ml {f : Nat} (x : Nat × List Int) : AV.tr (f + 1) (mlC x) = some (mlC x) := by
  show (if (mlC x).pure = true then some (mlC x) else none) = some (mlC x)
  rw [if_pos (mlC_pure x)]
theorem trL_ml {f : Nat} (M : ML) : (M.map mlC).mapM (AV.tr (f + 1)) = some (M.map mlC) := trL_map (fun x => tr_ml x) M
theorem cut_ml {f : Nat} {M : ML} {m : Nat} {k : List AV → Prop} (hm : m = M.length) (hk : k (M.map mlC)) : aCut (f + 1) (M.map mlC) 0 (m * 1) k := cut_tr (by simp [hm]) (trL_ml M) hk
end Go.Am
namespace Go.Proofs.YtjmdhfjemaoebaaGreat
set_option maxRecDepth 20000
open Go.RowKit Go.Am
set_option linter.unusedSimpArgs false
theorem beqf {a b : Int} (h : a ≠ b) : (a == b) = false := by simpa using h
theorem l2Sum_calli {c d : Nat} {xs zs : List Int} {i : Int} {env : List AV} {rows : List Row} {ctr low : Nat} {k : AV → St → Prop} (hpre : tensorOk xs zs = true) (hi : 0 ≤ i ∧ i < xs.length)
    (hk : k (.agg [.ref rows.length ctr 0 (wo xs i.toNat).length, .ref (rows.length + 1) ctr 0 (smTo xs zs i.toNat zs.length).length]) ⟨env, rows ++ [⟨ctr, 3, 1, (wo xs i.toNat).map (.int .i64)⟩, ⟨ctr, 3, 1, (smTo xs zs i.toNat zs.length).map (.int .i64)⟩], ctr + 1, low⟩) :
    CallB Tryz.prog 119 ⟨env, rows, ctr, low⟩ [.agg [.sl c xs.length (xs.map (.int .i64)), .sl d zs.length (zs.map (.int .i64))], .int .i64 i] k := by
  obtain ⟨a, rfl⟩ : ∃ a : Nat, i = a := ⟨i.toNat, by omega⟩
  exact l2Sum_call ⟨hpre, by omega⟩ hk
theorem l2Cut_calli {c d : Nat} {xs zs : List Int} {i f m : Int} {env : List AV} {rows : List Row} {ctr low : Nat} {k : AV → St → Prop} (hpre : cutP xs zs i f m)
    (hk : k (.agg [.ref rows.length ctr 0 (cutSh xs i.toNat m).length, .ref (rows.length + 1) ctr 0 (rdL zs (cutSh xs i.toNat m) (strides xs) (f * (strides xs).getD i.toNat 0)).length]) ⟨env, rows ++ [⟨ctr, 3, 1, (cutSh xs i.toNat m).map (.int .i64)⟩, ⟨ctr, 3, 1, (rdL zs (cutSh xs i.toNat m) (strides xs) (f * (strides xs).getD i.toNat 0)).map (.int .i64)⟩], ctr + 1, low⟩) :
    CallB Tryz.prog 111 ⟨env, rows, ctr, low⟩ [.agg [.sl c xs.length (xs.map (.int .i64)), .sl d zs.length (zs.map (.int .i64))], .int .i64 i, .int .i64 f, .int .i64 m] k := by
  obtain ⟨a, rfl⟩ : ∃ a : Nat, i = a := ⟨i.toNat, by have := hpre.2.1; omega⟩
  exact l2Cut_call hpre hk
theorem l2Beside_calli {c d e f : Nat} {xs zs ps qs L : List Int} {i : Int} {env : List AV} {rows : List Row} {ctr low τ ver n : Nat} {k : AV → St → Prop} (hpre : bsP xs zs ps qs i) (hL : L = bsSh xs i.toNat (ps.getD i.toNat 0)) (hr : rows[τ]? = some ⟨ver, 3, 1, L.map (.int .i64)⟩) (hn : n = L.length)
    (hk : k (.agg [.ref τ ver 0 n, .ref rows.length ctr 0 (bsL xs zs qs i.toNat (ps.getD i.toNat 0)).length]) ⟨env, setRows rows [τ] [L.map (.int .i64)] ++ [⟨ctr, 3, 1, (bsL xs zs qs i.toNat (ps.getD i.toNat 0)).map (.int .i64)⟩], ctr + 1, low⟩) :
    CallG Tryz.prog 120 ⟨env, rows, ctr, low⟩ [.agg [.sl c xs.length (xs.map (.int .i64)), .sl d zs.length (zs.map (.int .i64))], .agg [.sl e ps.length (ps.map (.int .i64)), .sl f qs.length (qs.map (.int .i64))], .int .i64 i, .ref τ ver 0 n] k := by
  obtain ⟨a, rfl⟩ : ∃ a : Nat, i = a := ⟨i.toNat, by have := hpre.2.2.1; omega⟩
  exact l2Beside_callL hpre hL hr hn hk
def postV (t : TypeId) (sh : List Int) (h : Prop) (V : List Int × List Int) (r : AV) (ic : List (List AV)) (news : List Row) : Prop :=
  ic = [sh.map (.int .i64)] ∧ ((h ∧ r = .agg [.ref 0 0 0 sh.length, .ref 1 0 0 V.2.length] ∧ news = [rowL t V.2]) ∨ (¬ h ∧ r = .agg [.ref 1 0 0 V.1.length, .ref 2 0 0 V.2.length] ∧ news = [rowL t V.1, rowL t V.2]))
theorem retVA {env : List AV} {ctr : Nat} {t : TypeId} {sh ws : List Int} {V : List Int × List Int} {h : Prop} {v0 n m τ v : Nat} {rest : List Row} (hh : h) (h3 : rest[τ]? = some ⟨v, t, 1, ws.map (.int .i64)⟩) (hL : V.2 = ws) (hn : n = sh.length) (hm : m = ws.length) :
    RetB ⟨env, ⟨v0, t, 1, sh.map (.int .i64)⟩ :: rest, ctr, 1⟩ [⟨0, t, 1, sh.map (.int .i64)⟩] (postV t sh h V) (.agg [.ref 0 v0 0 n, .ref (τ + 1) v 0 m]) := by
  subst hn; subst hm
  refine RetB1.ret ⟨[τ + 1], [⟨0, t, 1, sh.map (.int .i64)⟩, rowL t ws], .agg [.ref 0 0 0 sh.length, .ref 1 0 0 ws.length], [sh.map (.int .i64)], [rowL t ws], (show ([0, τ + 1] : List Nat).Nodup by simp), ?_, ?_, rfl, rfl, rfl, .inl ⟨hh, by rw [hL], by rw [hL]⟩⟩
  · show insOf _ [0, τ + 1] [0, τ + 1] = _
    simp [insOf, h3, protL_ren (protL_ints .i64 sh), protL_ren (protL_ints .i64 ws)]
  · show AV.ren _ [0, τ + 1] _ = _
    simp [AV.ren, renL, h3, List.idxOf, List.findIdx_cons]
theorem retVB {env : List AV} {ctr : Nat} {t : TypeId} {sh ps qs : List Int} {V : List Int × List Int} {h : Prop} {v0 n3 n4 τ3 τ4 v3 v4 : Nat} {rest : List Row} (hh : ¬ h) (hV : V = (ps, qs)) (hne : τ3 ≠ τ4) (h3 : rest[τ3]? = some ⟨v3, t, 1, ps.map (.int .i64)⟩) (h4 : rest[τ4]? = some ⟨v4, t, 1, qs.map (.int .i64)⟩) (e3 : n3 = ps.length) (e4 : n4 = qs.length) :
    RetB ⟨env, ⟨v0, t, 1, sh.map (.int .i64)⟩ :: rest, ctr, 1⟩ [⟨0, t, 1, sh.map (.int .i64)⟩] (postV t sh h V) (.agg [.ref (τ3 + 1) v3 0 n3, .ref (τ4 + 1) v4 0 n4]) := by
  have hb : (τ3 == τ4) = false := by simpa using hne
  subst e3; subst e4
  refine RetB1.ret ⟨[τ3 + 1, τ4 + 1], [⟨0, t, 1, sh.map (.int .i64)⟩, rowL t ps, rowL t qs], .agg [.ref 1 0 0 ps.length, .ref 2 0 0 qs.length], [sh.map (.int .i64)], [rowL t ps, rowL t qs], (show ([0, τ3 + 1, τ4 + 1] : List Nat).Nodup by simpa using hne), ?_, ?_, rfl, rfl, rfl, .inr ⟨hh, by rw [hV], by rw [hV]⟩⟩
  · show insOf _ [0, τ3 + 1, τ4 + 1] [0, τ3 + 1, τ4 + 1] = _
    simp [insOf, h3, h4, protL_ren (protL_ints .i64 sh), protL_ren (protL_ints .i64 ps), protL_ren (protL_ints .i64 qs)]
  · show AV.ren _ [0, τ3 + 1, τ4 + 1] _ = _
    simp [AV.ren, renL, h3, h4, List.idxOf, List.findIdx_cons, hb]
attribute [local irreducible] aPlan aGet aIf aLoop aCall RetB NextB CallB CallG aCut aSet aAppend Held
def sL3V (p : Int → Prop) : CSpec :=
  { ι := Nat × Nd × List Int × Nat × List T2 × Nat × List T2, inout := [false, true, false, false],
    args := fun | (b, x, sh, d, vs, e, ts) => [.agg [.int .i64 x.op, .int .i64 x.a, .int .i64 x.b, .sl b x.l.length (x.l.map (.int .i64))], .ref 0 0 0 sh.length, .sl d vs.length (vs.flatMap (tnC d)), .sl e ts.length (ts.flatMap (tnC e))],
    ins := fun | (_, _, sh, _, _, _, _) => [⟨0, 3, 1, sh.map (.int .i64)⟩],
    pre := fun | (_, x, sh, _, vs, _, ts) => lPre x sh ts vs ∧ p x.op,
    post := fun | (_, x, sh, _, vs, _, ts), r, ic, news => postV 3 sh (hbK x) (vS x sh ts vs) r ic news }
set_option maxHeartbeats 16000000 in
theorem l3Value_0 : Sound Tryz.prog 75 (sL3V fun op => op = 0) := by
  refine sound_of Tryz.func75 rfl (enters_of Tryz.func75 (by kernel_rfl) (by kernel_rfl)) ?_
  rintro ⟨b, x, sh, d, vs, e, ts⟩ hpre
  have hpre : lPre x sh ts vs ∧ x.op = 0 := hpre
  obtain ⟨hp, hin⟩ := hpre
  have F := l_facts hp
  have hxl := hp.1.2.2.2.1
  have hmax : maxLen = 9223372036854775807 := rfl
  have t0 : Int.toNat 0 = 0 := rfl
  have t1 : Int.toNat 1 = 1 := rfl
  have t2 : Int.toNat 2 = 2 := rfl
  have e0 : (x.op == 0) = true := by rw [hin]; rfl
  have o1 : x.op ≠ 1 := by omega
  have e1 : (x.op == 1) = false := beqf o1
  have o6 : x.op ≠ 6 := by omega
  have e6 : (x.op == 6) = false := beqf o6
  have o7 : x.op ≠ 7 := by omega
  have e7 : (x.op == 7) = false := beqf o7
  have o8 : x.op ≠ 8 := by omega
  have e8 : (x.op == 8) = false := beqf o8
  have o9 : x.op ≠ 9 := by omega
  have e9 : (x.op == 9) = false := beqf o9
  have o10 : x.op ≠ 10 := by omega
  have e10 : (x.op == 10) = false := beqf o10
  have o11 : x.op ≠ 11 := by omega
  have e11 : (x.op == 11) = false := beqf o11
  have o12 : x.op ≠ 12 := by omega
  have e12 : (x.op == 12) = false := beqf o12
  have e25 : decide (2 ≤ x.op ∧ x.op ≤ 5) = false := decide_eq_false (by omega)
  obtain ⟨ga, gt, gs⟩ := F.i0 hin
  have hl := allT_len hp.1.2.1 (show x.a.toNat < ts.length by omega)
  have hV : (vS x sh ts vs).2 = (ts.getD x.a.toNat ([], [])).2 := by unfold vS; rw [if_pos hin]
  conv => whnf
  dsimp only
  repeat' (first
    | ((first | refine tree_in (id := 7) (.one 0 (.one 1 (.one 2 (.one 3 (.one 4 (.one 5 (.one 6 (.one 7 (.one 8 (.two 9 13 (.one 10 (.one 11 (.one 12 (.one 13 (.one 14 (.one 15 .nil)))))) (.one 9 (.one 10 (.one 11 (.one 12 (.one 14 (.one 15 .nil)))))))))))))))) (by kernel_rfl) (by kernel_rfl) ?_ | refine plan_in (id := 13) [0, 1, 2, 3, 4, 5, 6] (by kernel_rfl) (by kernel_rfl) ?_ | refine plan_in (id := 19) [0, 1, 2, 3, 4, 5, 6, 7, 8, 9, 10, 11, 12, 13, 14] (by kernel_rfl) (by kernel_rfl) ?_ | refine plan_in (id := 21) [0, 1, 2, 3, 4, 5, 6, 7, 8, 9, 10, 11, 12] (by kernel_rfl) (by kernel_rfl) ?_ | refine plan_in (id := 22) [0, 1, 2, 3, 4, 5, 6, 7] (by kernel_rfl) (by kernel_rfl) ?_ | refine aGet_in rfl ?_ | refine And.intro (by omega) ?_ | refine And.intro rfl (And.intro (List.cons_ne_nil _ _) ?_) | refine And.intro (Nat.le_of_ble_eq_true rfl) ?_ | refine callG_t ?_ | refine l2Nums_call (by omega) ?_ | refine append_same ?_ | refine get_tn (by omega) rfl ?_ | refine takeN_in ?_ | refine And.intro (pureL_ints _ _) ?_ | refine set_force ?_ | refine And.intro (by kernel_rfl) ?_ | refine aIf_tt (by assumption) ?_); conv => whnf))
  all_goals (first | (exfalso; omega) | skip)
  exact retVA (show hbK x from .inl hin) rfl hV rfl rfl
set_option maxHeartbeats 16000000 in
theorem l3Value_1 : Sound Tryz.prog 75 (sL3V fun op => op = 1) := by
  refine sound_of Tryz.func75 rfl (enters_of Tryz.func75 (by kernel_rfl) (by kernel_rfl)) ?_
  rintro ⟨b, x, sh, d, vs, e, ts⟩ hpre
  have hpre : lPre x sh ts vs ∧ x.op = 1 := hpre
  obtain ⟨hp, hin⟩ := hpre
  have F := l_facts hp
  have hxl := hp.1.2.2.2.1
  have hmax : maxLen = 9223372036854775807 := rfl
  have t0 : Int.toNat 0 = 0 := rfl
  have t1 : Int.toNat 1 = 1 := rfl
  have t2 : Int.toNat 2 = 2 := rfl
  have o0 : x.op ≠ 0 := by omega
  have e0 : (x.op == 0) = false := beqf o0
  have e1 : (x.op == 1) = true := by rw [hin]; rfl
  have o6 : x.op ≠ 6 := by omega
  have e6 : (x.op == 6) = false := beqf o6
  have o7 : x.op ≠ 7 := by omega
  have e7 : (x.op == 7) = false := beqf o7
  have o8 : x.op ≠ 8 := by omega
  have e8 : (x.op == 8) = false := beqf o8
  have o9 : x.op ≠ 9 := by omega
  have e9 : (x.op == 9) = false := beqf o9
  have o10 : x.op ≠ 10 := by omega
  have e10 : (x.op == 10) = false := beqf o10
  have o11 : x.op ≠ 11 := by omega
  have e11 : (x.op == 11) = false := beqf o11
  have o12 : x.op ≠ 12 := by omega
  have e12 : (x.op == 12) = false := beqf o12
  have e25 : decide (2 ≤ x.op ∧ x.op ≤ 5) = false := decide_eq_false (by omega)
  have hV : (vS x sh ts vs).2 = [x.a] := by unfold vS; rw [if_neg o0, if_pos hin]
  conv => whnf
  dsimp only
  repeat' (first
    | ((first | refine tree_in (id := 7) (.one 0 (.one 1 (.one 2 (.one 3 (.one 4 (.one 5 (.one 6 (.one 7 (.one 8 (.two 9 13 (.one 10 (.one 11 (.one 12 (.one 13 (.one 14 (.one 15 .nil)))))) (.one 9 (.one 10 (.one 11 (.one 12 (.one 14 (.one 15 .nil)))))))))))))))) (by kernel_rfl) (by kernel_rfl) ?_ | refine plan_in (id := 13) [0, 1, 2, 3, 4, 5, 6] (by kernel_rfl) (by kernel_rfl) ?_ | refine plan_in (id := 19) [0, 1, 2, 3, 4, 5, 6, 7, 8, 9, 10, 11, 12, 13, 14] (by kernel_rfl) (by kernel_rfl) ?_ | refine plan_in (id := 21) [0, 1, 2, 3, 4, 5, 6, 7, 8, 9, 10, 11, 12] (by kernel_rfl) (by kernel_rfl) ?_ | refine plan_in (id := 22) [0, 1, 2, 3, 4, 5, 6, 7] (by kernel_rfl) (by kernel_rfl) ?_ | refine aGet_in rfl ?_ | refine And.intro rfl (And.intro (List.cons_ne_nil _ _) ?_) | refine And.intro (Nat.le_of_ble_eq_true rfl) ?_ | refine append_same ?_ | refine takeN_in ?_ | refine set_force ?_ | refine And.intro (And.intro (by kernel_rfl) (And.intro rfl (Nat.le_of_ble_eq_true rfl))) ?_ | refine And.intro (by kernel_rfl) ?_ | refine aIf_tt (by assumption) ?_ | refine aIf_ff (by assumption) ?_); conv => whnf))
  all_goals (first | (exfalso; omega) | skip)
  exact retVA (show hbK x from .inr (.inl hin)) rfl hV rfl rfl
set_option maxHeartbeats 16000000 in
theorem l3Value_6 : Sound Tryz.prog 75 (sL3V fun op => op = 6) := by
  refine sound_of Tryz.func75 rfl (enters_of Tryz.func75 (by kernel_rfl) (by kernel_rfl)) ?_
  rintro ⟨b, x, sh, d, vs, e, ts⟩ hpre
  have hpre : lPre x sh ts vs ∧ x.op = 6 := hpre
  obtain ⟨hp, hin⟩ := hpre
  have F := l_facts hp
  have hxl := hp.1.2.2.2.1
  have hmax : maxLen = 9223372036854775807 := rfl
  have t0 : Int.toNat 0 = 0 := rfl
  have t1 : Int.toNat 1 = 1 := rfl
  have t2 : Int.toNat 2 = 2 := rfl
  have o0 : x.op ≠ 0 := by omega
  have e0 : (x.op == 0) = false := beqf o0
  have o1 : x.op ≠ 1 := by omega
  have e1 : (x.op == 1) = false := beqf o1
  have e6 : (x.op == 6) = true := by rw [hin]; rfl
  have o7 : x.op ≠ 7 := by omega
  have e7 : (x.op == 7) = false := beqf o7
  have o8 : x.op ≠ 8 := by omega
  have e8 : (x.op == 8) = false := beqf o8
  have o9 : x.op ≠ 9 := by omega
  have e9 : (x.op == 9) = false := beqf o9
  have o10 : x.op ≠ 10 := by omega
  have e10 : (x.op == 10) = false := beqf o10
  have o11 : x.op ≠ 11 := by omega
  have e11 : (x.op == 11) = false := beqf o11
  have o12 : x.op ≠ 12 := by omega
  have e12 : (x.op == 12) = false := beqf o12
  have e25 : decide (2 ≤ x.op ∧ x.op ≤ 5) = false := decide_eq_false (by omega)
  obtain ⟨ga, gt⟩ := F.ia (by omega)
  have hl := allT_len hp.1.2.2.1 (show x.a.toNat < vs.length by omega)
  have hV : vS x sh ts vs = ((negM (vs.getD x.a.toNat ([], [])).1 (vs.getD x.a.toNat ([], [])).2).1, (negM (vs.getD x.a.toNat ([], [])).1 (vs.getD x.a.toNat ([], [])).2).2.1) := by unfold vS; rw [if_neg o0, if_neg o1, if_pos hin]
  conv => whnf
  dsimp only
  repeat' (first
    | ((first | refine tree_in (id := 7) (.one 0 (.one 1 (.one 2 (.one 3 (.one 4 (.one 5 (.one 6 (.one 7 (.one 8 (.two 9 13 (.one 10 (.one 11 (.one 12 (.one 13 (.one 14 (.one 15 .nil)))))) (.one 9 (.one 10 (.one 11 (.one 12 (.one 14 (.one 15 .nil)))))))))))))))) (by kernel_rfl) (by kernel_rfl) ?_ | refine plan_in (id := 13) [0, 1, 2, 3, 4, 5, 6] (by kernel_rfl) (by kernel_rfl) ?_ | refine plan_in (id := 19) [0, 1, 2, 3, 4, 5, 6, 7, 8, 9, 10, 11, 12, 13, 14] (by kernel_rfl) (by kernel_rfl) ?_ | refine plan_in (id := 21) [0, 1, 2, 3, 4, 5, 6, 7, 8, 9, 10, 11, 12] (by kernel_rfl) (by kernel_rfl) ?_ | refine plan_in (id := 22) [0, 1, 2, 3, 4, 5, 6, 7] (by kernel_rfl) (by kernel_rfl) ?_ | refine aGet_in rfl ?_ | refine And.intro (by omega) ?_ | refine load_same ?_ | refine And.intro rfl (And.intro (List.cons_ne_nil _ _) ?_) | refine And.intro (Nat.le_of_ble_eq_true rfl) ?_ | refine callG_t ?_ | refine sNegOf_call ?_ | refine append_same ?_ | refine part_tn (by omega) ?_ | refine takeN_in ?_ | refine And.intro (pureL_ints _ _) ?_ | refine in_call ?_ | refine set_force ?_ | refine And.intro (by kernel_rfl) ?_ | refine aIf_tt (by assumption) ?_ | refine aIf_ff (by assumption) ?_); conv => whnf))
  all_goals (first | (exfalso; omega) | skip)
  all_goals exact retVB (by unfold hbK; omega) hV (by decide) rfl rfl rfl rfl
end Go.Proofs.YtjmdhfjemaoebaaGreat
namespace Go.Proofs.YtjmdhfjemaoebaaGreat
set_option maxRecDepth 20000
open Go.RowKit Go.Am
set_option linter.unusedSimpArgs false
attribute [local irreducible] aPlan aGet aIf aLoop aCall RetB NextB CallB CallG aCut aSet aAppend Held
set_option maxHeartbeats 16000000 in
theorem l3Value_7 : Sound Tryz.prog 75 (sL3V fun op => op = 7) := by
  refine sound_of Tryz.func75 rfl (enters_of Tryz.func75 (by kernel_rfl) (by kernel_rfl)) ?_
  rintro ⟨b, x, sh, d, vs, e, ts⟩ hpre
  have hpre : lPre x sh ts vs ∧ x.op = 7 := hpre
  obtain ⟨hp, hin⟩ := hpre
  have F := l_facts hp
  have hxl := hp.1.2.2.2.1
  have hmax : maxLen = 9223372036854775807 := rfl
  have t0 : Int.toNat 0 = 0 := rfl
  have t1 : Int.toNat 1 = 1 := rfl
  have t2 : Int.toNat 2 = 2 := rfl
  have o0 : x.op ≠ 0 := by omega
  have e0 : (x.op == 0) = false := beqf o0
  have o1 : x.op ≠ 1 := by omega
  have e1 : (x.op == 1) = false := beqf o1
  have o6 : x.op ≠ 6 := by omega
  have e6 : (x.op == 6) = false := beqf o6
  have e7 : (x.op == 7) = true := by rw [hin]; rfl
  have o8 : x.op ≠ 8 := by omega
  have e8 : (x.op == 8) = false := beqf o8
  have o9 : x.op ≠ 9 := by omega
  have e9 : (x.op == 9) = false := beqf o9
  have o10 : x.op ≠ 10 := by omega
  have e10 : (x.op == 10) = false := beqf o10
  have o11 : x.op ≠ 11 := by omega
  have e11 : (x.op == 11) = false := beqf o11
  have o12 : x.op ≠ 12 := by omega
  have e12 : (x.op == 12) = false := beqf o12
  have e25 : decide (2 ≤ x.op ∧ x.op ≤ 5) = false := decide_eq_false (by omega)
  obtain ⟨ga, gt⟩ := F.ia (by omega)
  have hl := allT_len hp.1.2.2.1 (show x.a.toNat < vs.length by omega)
  obtain ⟨g1, g2⟩ := F.sum hin
  have hV : vS x sh ts vs = (wo (vs.getD x.a.toNat ([], [])).1 (x.l.getD (Int.toNat 0) 0).toNat, smTo (vs.getD x.a.toNat ([], [])).1 (vs.getD x.a.toNat ([], [])).2 (x.l.getD (Int.toNat 0) 0).toNat (vs.getD x.a.toNat ([], [])).2.length) := by unfold vS; rw [if_neg o0, if_neg o1, if_neg o6, if_pos hin]
  conv => whnf
  dsimp only
  repeat' (first
    | ((first | refine tree_in (id := 7) (.one 0 (.one 1 (.one 2 (.one 3 (.one 4 (.one 5 (.one 6 (.one 7 (.one 8 (.two 9 13 (.one 10 (.one 11 (.one 12 (.one 13 (.one 14 (.one 15 .nil)))))) (.one 9 (.one 10 (.one 11 (.one 12 (.one 14 (.one 15 .nil)))))))))))))))) (by kernel_rfl) (by kernel_rfl) ?_ | refine plan_in (id := 13) [0, 1, 2, 3, 4, 5, 6] (by kernel_rfl) (by kernel_rfl) ?_ | refine plan_in (id := 19) [0, 1, 2, 3, 4, 5, 6, 7, 8, 9, 10, 11, 12, 13, 14] (by kernel_rfl) (by kernel_rfl) ?_ | refine plan_in (id := 21) [0, 1, 2, 3, 4, 5, 6, 7, 8, 9, 10, 11, 12] (by kernel_rfl) (by kernel_rfl) ?_ | refine plan_in (id := 22) [0, 1, 2, 3, 4, 5, 6, 7] (by kernel_rfl) (by kernel_rfl) ?_ | refine get_int (by omega) ?_ | refine aGet_in rfl ?_ | refine And.intro (by omega) ?_ | refine load_same ?_ | refine And.intro rfl (And.intro (List.cons_ne_nil _ _) ?_) | refine And.intro (Nat.le_of_ble_eq_true rfl) ?_ | refine callG_t ?_ | refine append_same ?_ | refine part_tn (by omega) ?_ | refine l2Sum_calli (by assumption) (by assumption) ?_ | refine takeN_in ?_ | refine And.intro (pureL_ints _ _) ?_ | refine in_call ?_ | refine set_force ?_ | refine And.intro (by kernel_rfl) ?_ | refine aIf_tt (by assumption) ?_ | refine aIf_ff (by assumption) ?_); conv => whnf))
  all_goals (first | (exfalso; omega) | skip)
  all_goals exact retVB (by unfold hbK; omega) hV (by decide) rfl rfl rfl rfl
set_option maxHeartbeats 16000000 in
theorem l3Value_8 : Sound Tryz.prog 75 (sL3V fun op => op = 8) := by
  refine sound_of Tryz.func75 rfl (enters_of Tryz.func75 (by kernel_rfl) (by kernel_rfl)) ?_
  rintro ⟨b, x, sh, d, vs, e, ts⟩ hpre
  have hpre : lPre x sh ts vs ∧ x.op = 8 := hpre
  obtain ⟨hp, hin⟩ := hpre
  have F := l_facts hp
  have hxl := hp.1.2.2.2.1
  have hmax : maxLen = 9223372036854775807 := rfl
  have t0 : Int.toNat 0 = 0 := rfl
  have t1 : Int.toNat 1 = 1 := rfl
  have t2 : Int.toNat 2 = 2 := rfl
  have o0 : x.op ≠ 0 := by omega
  have e0 : (x.op == 0) = false := beqf o0
  have o1 : x.op ≠ 1 := by omega
  have e1 : (x.op == 1) = false := beqf o1
  have o6 : x.op ≠ 6 := by omega
  have e6 : (x.op == 6) = false := beqf o6
  have o7 : x.op ≠ 7 := by omega
  have e7 : (x.op == 7) = false := beqf o7
  have e8 : (x.op == 8) = true := by rw [hin]; rfl
  have o9 : x.op ≠ 9 := by omega
  have e9 : (x.op == 9) = false := beqf o9
  have o10 : x.op ≠ 10 := by omega
  have e10 : (x.op == 10) = false := beqf o10
  have o11 : x.op ≠ 11 := by omega
  have e11 : (x.op == 11) = false := beqf o11
  have o12 : x.op ≠ 12 := by omega
  have e12 : (x.op == 12) = false := beqf o12
  have e25 : decide (2 ≤ x.op ∧ x.op ≤ 5) = false := decide_eq_false (by omega)
  obtain ⟨ga, gt⟩ := F.ia (by omega)
  have hl := allT_len hp.1.2.2.1 (show x.a.toNat < vs.length by omega)
  have g1 := F.turn hin
  have hV : vS x sh ts vs = (turned (vs.getD x.a.toNat ([], [])).1 x.l, rdL (vs.getD x.a.toNat ([], [])).2 (turned (vs.getD x.a.toNat ([], [])).1 x.l) (turned (strides (vs.getD x.a.toNat ([], [])).1) x.l) 0) := by unfold vS; rw [if_neg o0, if_neg o1, if_neg o6, if_neg o7, if_pos hin]
  conv => whnf
  dsimp only
  repeat' (first
    | ((first | refine tree_in (id := 7) (.one 0 (.one 1 (.one 2 (.one 3 (.one 4 (.one 5 (.one 6 (.one 7 (.one 8 (.two 9 13 (.one 10 (.one 11 (.one 12 (.one 13 (.one 14 (.one 15 .nil)))))) (.one 9 (.one 10 (.one 11 (.one 12 (.one 14 (.one 15 .nil)))))))))))))))) (by kernel_rfl) (by kernel_rfl) ?_ | refine plan_in (id := 13) [0, 1, 2, 3, 4, 5, 6] (by kernel_rfl) (by kernel_rfl) ?_ | refine plan_in (id := 19) [0, 1, 2, 3, 4, 5, 6, 7, 8, 9, 10, 11, 12, 13, 14] (by kernel_rfl) (by kernel_rfl) ?_ | refine plan_in (id := 21) [0, 1, 2, 3, 4, 5, 6, 7, 8, 9, 10, 11, 12] (by kernel_rfl) (by kernel_rfl) ?_ | refine plan_in (id := 22) [0, 1, 2, 3, 4, 5, 6, 7] (by kernel_rfl) (by kernel_rfl) ?_ | refine aGet_in rfl ?_ | refine And.intro (by omega) ?_ | refine load_same ?_ | refine And.intro rfl (And.intro (List.cons_ne_nil _ _) ?_) | refine And.intro (Nat.le_of_ble_eq_true rfl) ?_ | refine callG_t ?_ | refine l2Turn_call (And.intro (by assumption) (by assumption)) ?_ | refine append_same ?_ | refine part_tn (by omega) ?_ | refine takeN_in ?_ | refine And.intro (pureL_ints _ _) ?_ | refine in_call ?_ | refine set_force ?_ | refine And.intro (by kernel_rfl) ?_ | refine aIf_tt (by assumption) ?_ | refine aIf_ff (by assumption) ?_); conv => whnf))
  all_goals (first | (exfalso; omega) | skip)
  all_goals exact retVB (by unfold hbK; omega) hV (by decide) rfl rfl rfl rfl
set_option maxHeartbeats 16000000 in
theorem l3Value_9 : Sound Tryz.prog 75 (sL3V fun op => op = 9) := by
  refine sound_of Tryz.func75 rfl (enters_of Tryz.func75 (by kernel_rfl) (by kernel_rfl)) ?_
  rintro ⟨b, x, sh, d, vs, e, ts⟩ hpre
  have hpre : lPre x sh ts vs ∧ x.op = 9 := hpre
  obtain ⟨hp, hin⟩ := hpre
  have F := l_facts hp
  have hxl := hp.1.2.2.2.1
  have hmax : maxLen = 9223372036854775807 := rfl
  have t0 : Int.toNat 0 = 0 := rfl
  have t1 : Int.toNat 1 = 1 := rfl
  have t2 : Int.toNat 2 = 2 := rfl
  have o0 : x.op ≠ 0 := by omega
  have e0 : (x.op == 0) = false := beqf o0
  have o1 : x.op ≠ 1 := by omega
  have e1 : (x.op == 1) = false := beqf o1
  have o6 : x.op ≠ 6 := by omega
  have e6 : (x.op == 6) = false := beqf o6
  have o7 : x.op ≠ 7 := by omega
  have e7 : (x.op == 7) = false := beqf o7
  have o8 : x.op ≠ 8 := by omega
  have e8 : (x.op == 8) = false := beqf o8
  have e9 : (x.op == 9) = true := by rw [hin]; rfl
  have o10 : x.op ≠ 10 := by omega
  have e10 : (x.op == 10) = false := beqf o10
  have o11 : x.op ≠ 11 := by omega
  have e11 : (x.op == 11) = false := beqf o11
  have o12 : x.op ≠ 12 := by omega
  have e12 : (x.op == 12) = false := beqf o12
  have e25 : decide (2 ≤ x.op ∧ x.op ≤ 5) = false := decide_eq_false (by omega)
  obtain ⟨ga, gt⟩ := F.ia (by omega)
  have hl := allT_len hp.1.2.2.1 (show x.a.toNat < vs.length by omega)
  have hV : (vS x sh ts vs).2 = (vs.getD x.a.toNat ([], [])).2 := by unfold vS; rw [if_neg o0, if_neg o1, if_neg o6, if_neg o7, if_neg o8, if_pos hin]
  conv => whnf
  dsimp only
  repeat' (first
    | ((first | refine tree_in (id := 7) (.one 0 (.one 1 (.one 2 (.one 3 (.one 4 (.one 5 (.one 6 (.one 7 (.one 8 (.two 9 13 (.one 10 (.one 11 (.one 12 (.one 13 (.one 14 (.one 15 .nil)))))) (.one 9 (.one 10 (.one 11 (.one 12 (.one 14 (.one 15 .nil)))))))))))))))) (by kernel_rfl) (by kernel_rfl) ?_ | refine plan_in (id := 13) [0, 1, 2, 3, 4, 5, 6] (by kernel_rfl) (by kernel_rfl) ?_ | refine plan_in (id := 19) [0, 1, 2, 3, 4, 5, 6, 7, 8, 9, 10, 11, 12, 13, 14] (by kernel_rfl) (by kernel_rfl) ?_ | refine plan_in (id := 21) [0, 1, 2, 3, 4, 5, 6, 7, 8, 9, 10, 11, 12] (by kernel_rfl) (by kernel_rfl) ?_ | refine plan_in (id := 22) [0, 1, 2, 3, 4, 5, 6, 7] (by kernel_rfl) (by kernel_rfl) ?_ | refine aGet_in rfl ?_ | refine And.intro (by omega) ?_ | refine And.intro rfl (And.intro (List.cons_ne_nil _ _) ?_) | refine And.intro (Nat.le_of_ble_eq_true rfl) ?_ | refine callG_t ?_ | refine l2Nums_call (by omega) ?_ | refine append_same ?_ | refine part_tn (by omega) ?_ | refine takeN_in ?_ | refine And.intro (pureL_ints _ _) ?_ | refine in_call ?_ | refine set_force ?_ | refine And.intro (by kernel_rfl) ?_ | refine aIf_tt (by assumption) ?_ | refine aIf_ff (by assumption) ?_); conv => whnf))
  all_goals (first | (exfalso; omega) | skip)
  exact retVA (show hbK x from .inr (.inr (.inl hin))) rfl hV rfl rfl
set_option maxHeartbeats 16000000 in
theorem l3Value_10 : Sound Tryz.prog 75 (sL3V fun op => op = 10) := by
  refine sound_of Tryz.func75 rfl (enters_of Tryz.func75 (by kernel_rfl) (by kernel_rfl)) ?_
  rintro ⟨b, x, sh, d, vs, e, ts⟩ hpre
  have hpre : lPre x sh ts vs ∧ x.op = 10 := hpre
  obtain ⟨hp, hin⟩ := hpre
  have F := l_facts hp
  have hxl := hp.1.2.2.2.1
  have hmax : maxLen = 9223372036854775807 := rfl
  have t0 : Int.toNat 0 = 0 := rfl
  have t1 : Int.toNat 1 = 1 := rfl
  have t2 : Int.toNat 2 = 2 := rfl
  have o0 : x.op ≠ 0 := by omega
  have e0 : (x.op == 0) = false := beqf o0
  have o1 : x.op ≠ 1 := by omega
  have e1 : (x.op == 1) = false := beqf o1
  have o6 : x.op ≠ 6 := by omega
  have e6 : (x.op == 6) = false := beqf o6
  have o7 : x.op ≠ 7 := by omega
  have e7 : (x.op == 7) = false := beqf o7
  have o8 : x.op ≠ 8 := by omega
  have e8 : (x.op == 8) = false := beqf o8
  have o9 : x.op ≠ 9 := by omega
  have e9 : (x.op == 9) = false := beqf o9
  have e10 : (x.op == 10) = true := by rw [hin]; rfl
  have o11 : x.op ≠ 11 := by omega
  have e11 : (x.op == 11) = false := beqf o11
  have o12 : x.op ≠ 12 := by omega
  have e12 : (x.op == 12) = false := beqf o12
  have e25 : decide (2 ≤ x.op ∧ x.op ≤ 5) = false := decide_eq_false (by omega)
  obtain ⟨ga, gt⟩ := F.ia (by omega)
  have hl := allT_len hp.1.2.2.1 (show x.a.toNat < vs.length by omega)
  obtain ⟨g1, g2⟩ := F.cut hin
  have hV : vS x sh ts vs = (cutSh (vs.getD x.a.toNat ([], [])).1 (x.l.getD (Int.toNat 0) 0).toNat (x.l.getD (Int.toNat 2) 0), rdL (vs.getD x.a.toNat ([], [])).2 (cutSh (vs.getD x.a.toNat ([], [])).1 (x.l.getD (Int.toNat 0) 0).toNat (x.l.getD (Int.toNat 2) 0)) (strides (vs.getD x.a.toNat ([], [])).1) ((x.l.getD (Int.toNat 1) 0) * (strides (vs.getD x.a.toNat ([], [])).1).getD (x.l.getD (Int.toNat 0) 0).toNat 0)) := by unfold vS; rw [if_neg o0, if_neg o1, if_neg o6, if_neg o7, if_neg o8, if_neg o9, if_pos hin]
  conv => whnf
  dsimp only
  repeat' (first
    | ((first | refine tree_in (id := 7) (.one 0 (.one 1 (.one 2 (.one 3 (.one 4 (.one 5 (.one 6 (.one 7 (.one 8 (.two 9 13 (.one 10 (.one 11 (.one 12 (.one 13 (.one 14 (.one 15 .nil)))))) (.one 9 (.one 10 (.one 11 (.one 12 (.one 14 (.one 15 .nil)))))))))))))))) (by kernel_rfl) (by kernel_rfl) ?_ | refine plan_in (id := 13) [0, 1, 2, 3, 4, 5, 6] (by kernel_rfl) (by kernel_rfl) ?_ | refine plan_in (id := 19) [0, 1, 2, 3, 4, 5, 6, 7, 8, 9, 10, 11, 12, 13, 14] (by kernel_rfl) (by kernel_rfl) ?_ | refine plan_in (id := 21) [0, 1, 2, 3, 4, 5, 6, 7, 8, 9, 10, 11, 12] (by kernel_rfl) (by kernel_rfl) ?_ | refine plan_in (id := 22) [0, 1, 2, 3, 4, 5, 6, 7] (by kernel_rfl) (by kernel_rfl) ?_ | refine get_int (by omega) ?_ | refine aGet_in rfl ?_ | refine And.intro (by omega) ?_ | refine load_same ?_ | refine And.intro rfl (And.intro (List.cons_ne_nil _ _) ?_) | refine And.intro (Nat.le_of_ble_eq_true rfl) ?_ | refine callG_t ?_ | refine append_same ?_ | refine part_tn (by omega) ?_ | refine l2Cut_calli (by assumption) ?_ | refine takeN_in ?_ | refine And.intro (pureL_ints _ _) ?_ | refine in_call ?_ | refine set_force ?_ | refine And.intro (by kernel_rfl) ?_ | refine aIf_tt (by assumption) ?_ | refine aIf_ff (by assumption) ?_); conv => whnf))
  all_goals (first | (exfalso; omega) | skip)
  all_goals exact retVB (by unfold hbK; omega) hV (by decide) rfl rfl rfl rfl
end Go.Proofs.YtjmdhfjemaoebaaGreat
namespace Go.Proofs.YtjmdhfjemaoebaaGreat
set_option maxRecDepth 20000
open Go.RowKit Go.Am
set_option linter.unusedSimpArgs false
attribute [local irreducible] aPlan aGet aIf aLoop aCall RetB NextB CallB CallG aCut aSet aAppend Held
set_option maxHeartbeats 16000000 in
theorem l3Value_12 : Sound Tryz.prog 75 (sL3V fun op => op = 12) := by
  refine sound_of Tryz.func75 rfl (enters_of Tryz.func75 (by kernel_rfl) (by kernel_rfl)) ?_
  rintro ⟨b, x, sh, d, vs, e, ts⟩ hpre
  have hpre : lPre x sh ts vs ∧ x.op = 12 := hpre
  obtain ⟨hp, hin⟩ := hpre
  have F := l_facts hp
  have hxl := hp.1.2.2.2.1
  have hmax : maxLen = 9223372036854775807 := rfl
  have t0 : Int.toNat 0 = 0 := rfl
  have t1 : Int.toNat 1 = 1 := rfl
  have t2 : Int.toNat 2 = 2 := rfl
  have o0 : x.op ≠ 0 := by omega
  have e0 : (x.op == 0) = false := beqf o0
  have o1 : x.op ≠ 1 := by omega
  have e1 : (x.op == 1) = false := beqf o1
  have o6 : x.op ≠ 6 := by omega
  have e6 : (x.op == 6) = false := beqf o6
  have o7 : x.op ≠ 7 := by omega
  have e7 : (x.op == 7) = false := beqf o7
  have o8 : x.op ≠ 8 := by omega
  have e8 : (x.op == 8) = false := beqf o8
  have o9 : x.op ≠ 9 := by omega
  have e9 : (x.op == 9) = false := beqf o9
  have o10 : x.op ≠ 10 := by omega
  have e10 : (x.op == 10) = false := beqf o10
  have o11 : x.op ≠ 11 := by omega
  have e11 : (x.op == 11) = false := beqf o11
  have e12 : (x.op == 12) = true := by rw [hin]; rfl
  have e25 : decide (2 ≤ x.op ∧ x.op ≤ 5) = false := decide_eq_false (by omega)
  obtain ⟨ga, gt⟩ := F.ia (by omega)
  have hl := allT_len hp.1.2.2.1 (show x.a.toNat < vs.length by omega)
  obtain ⟨gb, gu⟩ := F.ib (by omega)
  have g1 := F.prod hin
  have hV : vS x sh ts vs = ([(vs.getD x.a.toNat ([], [])).1.getD 0 0, (vs.getD x.b.toNat ([], [])).1.getD 1 0], prL (vs.getD x.a.toNat ([], [])).2 (vs.getD x.b.toNat ([], [])).2 ((vs.getD x.a.toNat ([], [])).1.getD 0 0).toNat ((vs.getD x.a.toNat ([], [])).1.getD 1 0).toNat ((vs.getD x.b.toNat ([], [])).1.getD 1 0).toNat) := by unfold vS; rw [if_neg o0, if_neg o1, if_neg o6, if_neg o7, if_neg o8, if_neg o9, if_neg o10, if_neg o11, if_pos hin]
  conv => whnf
  dsimp only
  repeat' (first
    | ((first | refine tree_in (id := 7) (.one 0 (.one 1 (.one 2 (.one 3 (.one 4 (.one 5 (.one 6 (.one 7 (.one 8 (.two 9 13 (.one 10 (.one 11 (.one 12 (.one 13 (.one 14 (.one 15 .nil)))))) (.one 9 (.one 10 (.one 11 (.one 12 (.one 14 (.one 15 .nil)))))))))))))))) (by kernel_rfl) (by kernel_rfl) ?_ | refine plan_in (id := 13) [0, 1, 2, 3, 4, 5, 6] (by kernel_rfl) (by kernel_rfl) ?_ | refine plan_in (id := 19) [0, 1, 2, 3, 4, 5, 6, 7, 8, 9, 10, 11, 12, 13, 14] (by kernel_rfl) (by kernel_rfl) ?_ | refine plan_in (id := 21) [0, 1, 2, 3, 4, 5, 6, 7, 8, 9, 10, 11, 12] (by kernel_rfl) (by kernel_rfl) ?_ | refine plan_in (id := 22) [0, 1, 2, 3, 4, 5, 6, 7] (by kernel_rfl) (by kernel_rfl) ?_ | refine aGet_in rfl ?_ | refine And.intro (by omega) ?_ | refine load_same ?_ | refine And.intro rfl (And.intro (List.cons_ne_nil _ _) ?_) | refine And.intro (Nat.le_of_ble_eq_true rfl) ?_ | refine callG_t ?_ | refine l2Product_call (by assumption) ?_ | refine append_same ?_ | refine part_tn (by omega) ?_ | refine takeN_in ?_ | refine And.intro (pureL_ints _ _) ?_ | refine in_call ?_ | refine set_force ?_ | refine And.intro (by kernel_rfl) ?_ | refine aIf_ff (by assumption) ?_); conv => whnf))
  all_goals (first | (exfalso; omega) | skip)
  all_goals exact retVB (by unfold hbK; omega) hV (by decide) rfl rfl rfl rfl
set_option maxHeartbeats 16000000 in
theorem l3Value_2 : Sound Tryz.prog 75 (sL3V fun op => 2 ≤ op ∧ op ≤ 5) := by
  refine sound_of Tryz.func75 rfl (enters_of Tryz.func75 (by kernel_rfl) (by kernel_rfl)) ?_
  rintro ⟨b, x, sh, d, vs, e, ts⟩ hpre
  have hpre : lPre x sh ts vs ∧ (2 ≤ x.op ∧ x.op ≤ 5) := hpre
  obtain ⟨hp, hin⟩ := hpre
  have F := l_facts hp
  have hxl := hp.1.2.2.2.1
  have hmax : maxLen = 9223372036854775807 := rfl
  have t0 : Int.toNat 0 = 0 := rfl
  have t1 : Int.toNat 1 = 1 := rfl
  have t2 : Int.toNat 2 = 2 := rfl
  have o0 : x.op ≠ 0 := by omega
  have e0 : (x.op == 0) = false := beqf o0
  have o1 : x.op ≠ 1 := by omega
  have e1 : (x.op == 1) = false := beqf o1
  have o6 : x.op ≠ 6 := by omega
  have e6 : (x.op == 6) = false := beqf o6
  have o7 : x.op ≠ 7 := by omega
  have e7 : (x.op == 7) = false := beqf o7
  have o8 : x.op ≠ 8 := by omega
  have e8 : (x.op == 8) = false := beqf o8
  have o9 : x.op ≠ 9 := by omega
  have e9 : (x.op == 9) = false := beqf o9
  have o10 : x.op ≠ 10 := by omega
  have e10 : (x.op == 10) = false := beqf o10
  have o11 : x.op ≠ 11 := by omega
  have e11 : (x.op == 11) = false := beqf o11
  have o12 : x.op ≠ 12 := by omega
  have e12 : (x.op == 12) = false := beqf o12
  have e25 : decide (2 ≤ x.op ∧ x.op ≤ 5) = true := decide_eq_true hin
  obtain ⟨ga, gt⟩ := F.ia (by omega)
  have hl := allT_len hp.1.2.2.1 (show x.a.toNat < vs.length by omega)
  obtain ⟨gb, gu⟩ := F.ib (by omega)
  have hj := F.two hin
  have hw : IntKind.i64.wrap (x.op - 2) = x.op - 2 := IntWalk.i64_in _ (by omega)
  have hlt := ltM_t (op := x.op - 2) (zs := (vs.getD x.a.toNat ([], [])).2) (qs := (vs.getD x.b.toNat ([], [])).2) hj
  have hV : vS x sh ts vs = ((ltM (IntKind.i64.wrap (x.op - 2)) (vs.getD x.a.toNat ([], [])).1 (vs.getD x.a.toNat ([], [])).2 (vs.getD x.b.toNat ([], [])).1 (vs.getD x.b.toNat ([], [])).2).1, (ltM (IntKind.i64.wrap (x.op - 2)) (vs.getD x.a.toNat ([], [])).1 (vs.getD x.a.toNat ([], [])).2 (vs.getD x.b.toNat ([], [])).1 (vs.getD x.b.toNat ([], [])).2).2.1) := by
    rw [hw, hlt]; unfold vS; rw [if_neg o0, if_neg o1, if_neg o6, if_neg o7, if_neg o8, if_neg o9, if_neg o10, if_neg o11, if_neg o12]
  conv => whnf
  dsimp only
  repeat' (first
    | ((first | refine tree_in (id := 7) (.one 0 (.one 1 (.one 2 (.one 3 (.one 4 (.one 5 (.one 6 (.one 7 (.one 8 (.two 9 13 (.one 10 (.one 11 (.one 12 (.one 13 (.one 14 (.one 15 .nil)))))) (.one 9 (.one 10 (.one 11 (.one 12 (.one 14 (.one 15 .nil)))))))))))))))) (by kernel_rfl) (by kernel_rfl) ?_ | refine plan_in (id := 13) [0, 1, 2, 3, 4, 5, 6] (by kernel_rfl) (by kernel_rfl) ?_ | refine plan_in (id := 19) [0, 1, 2, 3, 4, 5, 6, 7, 8, 9, 10, 11, 12, 13, 14] (by kernel_rfl) (by kernel_rfl) ?_ | refine plan_in (id := 21) [0, 1, 2, 3, 4, 5, 6, 7, 8, 9, 10, 11, 12] (by kernel_rfl) (by kernel_rfl) ?_ | refine plan_in (id := 22) [0, 1, 2, 3, 4, 5, 6, 7] (by kernel_rfl) (by kernel_rfl) ?_); conv => whnf) | (refine fork_in ?_ ?_ <;> conv => whnf) | ((first | refine aGet_in rfl ?_ | refine And.intro (by omega) ?_ | refine load_same ?_ | refine And.intro rfl (And.intro (List.cons_ne_nil _ _) ?_) | refine And.intro (Nat.le_of_ble_eq_true rfl) ?_ | refine callG_t ?_ | refine l2Two_call (And.intro (by assumption) (by assumption)) ?_ | refine append_same ?_ | refine part_tn (by omega) ?_ | refine takeN_in ?_ | refine And.intro (pureL_ints _ _) ?_ | refine in_call ?_ | refine set_force ?_ | refine And.intro (by kernel_rfl) ?_ | refine aIf_tt (by assumption) ?_ | refine aIf_ff (by assumption) ?_); conv => whnf))
  all_goals (first | (exfalso; omega) | skip)
  all_goals exact retVB (by unfold hbK; omega) hV (by decide) rfl rfl rfl rfl
end Go.Proofs.YtjmdhfjemaoebaaGreat
