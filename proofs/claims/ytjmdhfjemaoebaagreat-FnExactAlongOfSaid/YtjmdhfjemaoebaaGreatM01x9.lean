import Derived.Test.YtjmdhfjemaoebaaGreatAmT
import Derived.ProofKit
namespace Go.Am
open Go.RowKit
variable {D : Nat → Prop}
section
variable {P : Program} {w w0 : World} {φ φ0 : Places} {s : St} {K : Nat → Prop} {a : Act}
theorem put_same {a : Act} {d : Nat} {v : Value} (h : a.tmps[d]? = some v) : a.put (some d) v = a := by
  cases a with
  | mk tmps defers =>
    simp only [Act.put, Act.mk.injEq, and_true]
    apply Array.ext_getElem?
    intro i
    rw [Array.getElem?_setIfInBounds]
    simp only at h
    split
    · rename_i e; subst e
      obtain ⟨h1, h2⟩ := Array.getElem?_eq_some_iff.1 h
      rw [if_pos h1, h]
    · rfl
theorem undef_of {v : Value} {rows : List Row} {ctr : Nat} (h : VR D w φ rows ctr v (.tup [])) : v = undef := by
  cases h with
  | tup vs us hl hv =>
    have : vs = #[] := Array.eq_empty_of_size_eq_zero (by simpa using hl)
    rw [this]; rfl
theorem undef_VR {rows : List Row} {ctr : Nat} : VR D w φ rows ctr undef (.tup []) := .tup #[] [] rfl (fun j v u h => by simp at h)
theorem guard_ok {all : Array Oper} {j : Nat} {k : Tmp → Bool → Prop} {ks : Prop} (h : Inv D K w0 φ0 φ a w s) (hk : aGuard all s j k ks) :
    (∃ (d : Nat) (b : Bool), a.tmps[d]? = some (.bool b) ∧ yielded all a.tmps j = some b ∧ k d b ∧ Inv D K w0 φ0 φ a w (s.put (some d) (.bool b))) ∨ (yielded all a.tmps j = none ∧ ks) := by
  unfold aGuard at hk
  split at hk
  case h_2 => exact hk.elim
  rename_i d hd
  have hv := h.sr.evTmp d
  split at hk
  case h_3 => exact hk.elim
  · rename_i b hb
    left
    rw [hb] at hv
    have hval := hv.bool_inv
    have hlt : d < a.tmps.size := by
      rcases Nat.lt_or_ge d a.tmps.size with h' | h'
      · exact h'
      · exfalso
        have hl := h.sr.elen
        simp only [Array.length_toList] at hl
        have e1 : s.env[d]? = none := List.getElem?_eq_none (by omega)
        simp [List.getD, e1] at hb
    have hget : a.tmps[d]? = some (.bool b) := by
      rw [← hval]
      simp [Array.getD, hlt]
    refine ⟨d, b, hget, ?_, hk, ?_⟩
    · simp only [yielded, hd, Option.bind_some]
      have : (a.tmps[d]? : Option Value) = some (.bool b) := hget
      simp only [this]
    · have := h.put (some d) (VR.bool b)
      rwa [put_same hget] at this
  · rename_i hb
    right
    refine ⟨?_, hk⟩
    rw [hb] at hv
    have hval := undef_of hv
    simp only [yielded, hd, Option.bind_some]
    rcases Nat.lt_or_ge d a.tmps.size with hlt | hge
    · have : (a.tmps[d]? : Option Value) = some undef := by
        rw [← hval]; simp [Array.getD, hlt]
      simp only [this]
      rfl
    · have : (a.tmps[d]? : Option Value) = none := Array.getElem?_eq_none hge
      simp only [this]
theorem aOps_wp {ops : Array Oper} {k : St → Prop} {Q : Exit → Act → World → Prop} (hQ : ∀ a w, Post D K w0 φ0 k a w → Q .normal a w) : ∀ (l : List Oper) {a : Act} {w : World} {s : St} {φ : Places}, Inv D K w0 φ0 φ a w s → aOps P ops l s k → wpList P ops Q l a w
  | [], a, w, s, φ, h, hk => hQ a w ⟨φ, s, h, hk⟩
  | o :: rest, a, w, s, φ, h, hk => by
    unfold aOps at hk
    simp only [putK_eq] at hk
    unfold wpList
    split at hk
    · rename_i hg
      rw [if_pos (by simp [Region.wanted, hg])]
      exact .inl (aOp_wp h hk fun a' w' ⟨φ', s', h', hk'⟩ => aOps_wp hQ rest h' hk')
    · rename_i j want hg
      rcases guard_ok h hk with ⟨d, b, h1, h2, ⟨k1, k2⟩, h3⟩ | ⟨h2, k3⟩
      case inr =>
        rw [if_neg (by simp [Region.wanted, hg, h2])]
        exact aOps_wp hQ rest (h.put o.dst undef_VR) k3
      by_cases e : b = want
      · subst e
        rw [if_pos (by simp [Region.wanted, hg, h2])]
        exact .inl (aOp_wp h3 (k1 (by simp)) fun a' w' ⟨φ', s', h', hk'⟩ => aOps_wp hQ rest h' hk')
      · have e' : b = !want := by cases b <;> cases want <;> simp_all
        subst e'
        rw [if_neg (by simp [Region.wanted, hg, h2])]
        exact aOps_wp hQ rest (h3.put o.dst undef_VR) (k2 (by cases want <;> rfl))
theorem aOpsX_walk {q : HM} {ops : Array Oper} {k : St → Prop} {Q : Act → World → Prop} (hQ : ∀ a w, Post D K w0 φ0 k a w → Q a w) : ∀ (l : List Nat) {a : Act} {w : World} {s : St} {φ : Places}, Inv D K w0 φ0 φ a w s → aOpsX P q ops l s k → walkX P ops (heavyB P q) Q l a w
  | [], a, w, s, φ, h, hk => hQ a w ⟨φ, s, h, hk⟩
  | i :: is, a, w, s, φ, h, hk => by
    unfold aOpsX at hk
    simp only [putK_eq] at hk
    unfold walkX
    have e : ops.toList[i]? = ops[i]? := by simp
    rw [e] at hk
    cases ho : ops[i]? with
    | none => rw [ho] at hk; exact hk.elim
    | some o =>
    rw [ho] at hk
    simp only at hk ⊢
    have step : ∀ {s : St} {φ : Places}, Inv D K w0 φ0 φ a w s → aOpX P q o s (fun s' => aOpsX P q ops is s' k) →
        (if readerO o = true then ∃ v, (∀ w', (loadsO o = true → Ext w w') → (execOp a.eval o).run P w' = .ok (.value v) w') ∧ walkX P ops (heavyB P q) Q is (a.put o.dst v) w
        else o.wp P a w (fun a' w' => (heavyB P q o = false → Ext w w') ∧ walkX P ops (heavyB P q) Q is a' w') noQ) := fun {s φ} h hk => by
      by_cases hr : readerO o = true
      · rw [if_pos hr]
        have hk' : aOp P o s (fun s' => aOpsX P q ops is s' k) := by
          unfold aOpX at hk
          split at hk
          · rename_i c hc
            split at hk
            · rename_i f hf; simp [readerO, hc, hf] at hr
            · exact hk
          · exact hk
        obtain ⟨v, φ', s', h1, h2, h3⟩ := aOp_read h hr hk'
        exact ⟨v, h1, aOpsX_walk hQ is h2 h3⟩
      · rw [if_neg hr]
        exact aOpX_wp h (by simpa using hr) hk fun a' w' hx ⟨φ', s', h', hk'⟩ => ⟨hx, aOpsX_walk hQ is h' hk'⟩
    split at hk
    · rename_i hg
      rw [if_pos (by simp [Region.wanted, hg])]
      exact step h hk
    · rename_i j want hg
      rcases guard_ok h hk with ⟨d, b, h1, h2, ⟨k1, k2⟩, h3⟩ | ⟨h2, k3⟩
      case inr =>
        rw [if_neg (by simp [Region.wanted, hg, h2])]
        exact aOpsX_walk hQ is (h.put o.dst undef_VR) k3
      by_cases e : b = want
      · subst e
        rw [if_pos (by simp [Region.wanted, hg, h2])]
        exact step h3 (k1 (by simp))
      · have e' : b = !want := by revert e; cases b <;> cases want <;> decide
        subst e'
        rw [if_neg (by simp [Region.wanted, hg, h2])]
        exact aOpsX_walk hQ is (h3.put o.dst undef_VR) (k2 (by cases want <;> rfl))
theorem aStepX_walk {q : HM} {ops : Array Oper} {i : Nat} {k : St → Prop} {R : Act → World → Prop} (hR : ∀ a w φ s, Inv D K w0 φ0 φ a w s → k s → R a w) {a : Act} {w : World} {s : St} {φ : Places} (h : Inv D K w0 φ0 φ a w s) (hk : aStepX P q ops i s k) : stepX P ops (heavyB P q) i R a w := by
  unfold aStepX at hk
  simp only [putK_eq] at hk
  unfold stepX
  have e : ops.toList[i]? = ops[i]? := by simp
  rw [e] at hk
  cases ho : ops[i]? with
  | none => rw [ho] at hk; exact hk.elim
  | some o =>
  rw [ho] at hk
  simp only at hk ⊢
  have step : ∀ {s : St} {φ : Places}, Inv D K w0 φ0 φ a w s → aOpX P q o s k →
      (if readerO o = true then ∃ v, (∀ w', (loadsO o = true → Ext w w') → (execOp a.eval o).run P w' = .ok (.value v) w') ∧ R (a.put o.dst v) w
      else o.wp P a w (fun a' w' => (heavyB P q o = false → Ext w w') ∧ R a' w') noQ) := fun {s φ} h hk => by
    by_cases hr : readerO o = true
    · rw [if_pos hr]
      have hk' : aOp P o s k := by
        unfold aOpX at hk
        split at hk
        · rename_i c hc
          split at hk
          · rename_i f hf; simp [readerO, hc, hf] at hr
          · exact hk
        · exact hk
      obtain ⟨v, φ', s', h1, h2, h3⟩ := aOp_read h hr hk'
      exact ⟨v, h1, hR _ _ _ _ h2 h3⟩
    · rw [if_neg hr]
      exact aOpX_wp h (by simpa using hr) hk fun a' w' hx ⟨φ', s', h', hk'⟩ => ⟨hx, hR _ _ _ _ h' hk'⟩
  split at hk
  · rename_i hg
    rw [if_pos (by simp [Region.wanted, hg])]
    exact step h hk
  · rename_i j want hg
    rcases guard_ok h hk with ⟨d, b, h1, h2, ⟨k1, k2⟩, h3⟩ | ⟨h2, k3⟩
    case inr =>
      rw [if_neg (by simp [Region.wanted, hg, h2])]
      exact hR _ _ _ _ (h.put o.dst undef_VR) k3
    by_cases e : b = want
    · subst e
      rw [if_pos (by simp [Region.wanted, hg, h2])]
      exact step h3 (k1 (by simp))
    · have e' : b = !want := by revert e; cases b <;> cases want <;> decide
      subst e'
      rw [if_neg (by simp [Region.wanted, hg, h2])]
      exact hR _ _ _ _ (h3.put o.dst undef_VR) (k2 (by cases want <;> rfl))
theorem aTree_walk {q : HM} {ops : Array Oper} {k : St → Prop} {Q : Act → World → Prop} (hQ : ∀ a w, Post D K w0 φ0 k a w → Q a w) : ∀ (t : PT) {a : Act} {w : World} {s : St} {φ : Places}, Inv D K w0 φ0 φ a w s → aTree P q ops t s k → walkT P ops (heavyB P q) Q t a w
  | .nil, a, w, s, φ, h, hk => hQ a w ⟨φ, s, h, hk⟩
  | .one _ t, _, _, _, _, h, hk => aStepX_walk (fun _ _ _ _ h' hk' => aTree_walk hQ t h' hk') h hk
  | .two _ _ t u, _, _, _, _, h, hk => ⟨aStepX_walk (fun _ _ _ _ h' hk' => aTree_walk hQ t h' hk') h (fork_out hk).1, aStepX_walk (fun _ _ _ _ h' hk' => aTree_walk hQ u h' hk') h (fork_out hk).2⟩
  | .tri _ _ _ t u v, _, _, _, _, h, hk => ⟨aStepX_walk (fun _ _ _ _ h' hk' => aTree_walk hQ t h' hk') h (fork_out hk).1, aStepX_walk (fun _ _ _ _ h' hk' => aTree_walk hQ u h' hk') h (fork_out (fork_out hk).2).1, aStepX_walk (fun _ _ _ _ h' hk' => aTree_walk hQ v h' hk') h (fork_out (fork_out hk).2).2⟩
  | .qua _ _ _ _ t u v x, _, _, _, _, h, hk => ⟨aStepX_walk (fun _ _ _ _ h' hk' => aTree_walk hQ t h' hk') h (fork_out hk).1, aStepX_walk (fun _ _ _ _ h' hk' => aTree_walk hQ u h' hk') h (fork_out (fork_out hk).2).1, aStepX_walk (fun _ _ _ _ h' hk' => aTree_walk hQ v h' hk') h (fork_out (fork_out (fork_out hk).2).2).1, aStepX_walk (fun _ _ _ _ h' hk' => aTree_walk hQ x h' hk') h (fork_out (fork_out (fork_out hk).2).2).2⟩
structure Cls (w w' : World) : Prop where
  ext : Ext w w'
  os : w'.os = w.os
  tape : w'.tape = w.tape
  output : w'.output = w.output
theorem Inv.cls (h : Inv D K w0 φ0 φ a w s) {w' : World} (hc : Cls w w') : Inv D K w0 φ0 φ a w' s :=
  ⟨h.sr.same hc.ext.sz hc.ext.bl, h.kp.trans (K' := fun b => b < w.heap.size) ⟨hc.os, hc.tape, hc.output, hc.ext.sz, hc.ext.bl⟩ h.hKl, h.ap, h.lw.trans (Lows.new (fun _ _ => rfl) hc.ext.bl), h.lc, h.kl, h.df⟩
end
mutual
def AV.sub (s s' : St) : AV → AV → Prop
  | x, .un => x = x
  | .ref t v o n, .ref t' v' o' n' => (t' = t ∧ o' = o ∧ n' = n) ∧ (s.rows[t]?).map (·.ver) = some v ∧ (s'.rows[t]?).map (·.ver) = some v'
  | .ptr t v o, .ptr t' v' o' => (t' = t ∧ o' = o) ∧ (s.rows[t]?).map (·.ver) = some v ∧ (s'.rows[t]?).map (·.ver) = some v'
  | .agg xs, .agg ys => subL s s' xs ys
  | .tup xs, .tup ys => subL s s' xs ys
  | x, y => x = y ∧ x.pure = true
def subL (s s' : St) : List AV → List AV → Prop
  | [], [] => True
  | x :: xs, y :: ys => x.sub s s' y ∧ subL s s' xs ys
  | _, _ => False
end
def rowLE (s s' : St) (r r' : Row) : Prop := (r'.ety = r.ety ∧ r'.size = r.size ∧ r'.ver < s'.ctr) ∧ ((pureL r.cells = true ∧ r'.cells = r.cells) ∨ subL s s' r.cells r'.cells)
def rowsLE (s s' : St) : List Row → List Row → Prop
  | _, [] => True
  | r :: rs, r' :: rs' => rowLE s s' r r' ∧ rowsLE s s' rs rs'
  | [], _ :: _ => False
def St.le (s s' : St) : Prop := subL s s' s.env s'.env ∧ rowsLE s s' s.rows s'.rows ∧ s'.low = s.low ∧ s'.low ≤ s'.rows.length
def St.to (s s' : St) : Prop := ∃ s1, St.closes s s1 ∧ s1.le s'
theorem St.le.to {s s' : St} (h : s.le s') : s.to s' := ⟨s, .refl s, h⟩
def aPlan (P : Program) (id : Nat) (ops : Array Oper) (s : St) (k : St → Prop) : Prop := aPlan0 P id ops s k ∨ ∃ C : St, aPlan0 P id ops s (fun s' => s'.to C) ∧ k C
theorem plan_in {P : Program} {id : Nat} {ops : Array Oper} {s : St} {k : St → Prop} (l : List Nat) (hm : P.follows .mixedOrders = true) (hB : planB .any ops (heavyO P) l = true) (h : aOpsX P .lo ops l s k) : aPlan P id ops s k := .inl (plan_in0 l hm hB h)
theorem plan_in2 {P : Program} {id : Nat} {ops : Array Oper} {s : St} {k : St → Prop} (l : List Nat) (hm : P.follows .mixedOrders = true) (hB : planB .any ops heavyS l = true) (h : aOpsX P .hi ops l s k) : aPlan P id ops s k := .inl (plan_in20 l hm hB h)
theorem tree_in {P : Program} {id : Nat} {ops : Array Oper} {s : St} {k : St → Prop} (t : PT) (hm : P.follows .mixedOrders = true) (hB : treeB .any ops (heavyO P) t = true) (h : aTree P .lo ops t s k) : aPlan P id ops s k := .inl (tree_in0 t hm hB h)
theorem tree_in2 {P : Program} {id : Nat} {ops : Array Oper} {s : St} {k : St → Prop} (t : PT) (hm : P.follows .mixedOrders = true) (hB : treeB .any ops heavyS t = true) (h : aTree P .hi ops t s k) : aPlan P id ops s k := .inl ⟨hm, .hi, .inr ⟨t, hB, h⟩⟩
theorem plan_inF {P : Program} {id : Nat} {ops : Array Oper} {s : St} {k : St → Prop} (fs : List Nat) (l : List Nat) (hm : P.follows .mixedOrders = true) (hB : planB .any ops (heavyB P (.of fs)) l = true) (h : aOpsX P (.of fs) ops l s k) : aPlan P id ops s k := .inl ⟨hm, .of fs, .inl ⟨l, hB, h⟩⟩
theorem tree_inF {P : Program} {id : Nat} {ops : Array Oper} {s : St} {k : St → Prop} (fs : List Nat) (t : PT) (hm : P.follows .mixedOrders = true) (hB : treeB .any ops (heavyB P (.of fs)) t = true) (h : aTree P (.of fs) ops t s k) : aPlan P id ops s k := .inl ⟨hm, .of fs, .inr ⟨t, hB, h⟩⟩
def aThen (next : St → Prop) (Q : Exit → St → Prop) : Exit → St → Prop
  | .normal, s => next s
  | .exit id, s => Q (.exit id) s
  | .ret, s => Q .ret s
  | _, _ => False
def aBlock (id : Nat) (Q : Exit → St → Prop) : Exit → St → Prop
  | .normal, s => Q .normal s
  | .exit id', s => if id' = id then Q .normal s else Q (.exit id') s
  | .ret, s => Q .ret s
  | _, _ => False
def aCond (c : AV) (x y : Prop) : Prop :=
  match c with
  | .bool b => aIf b x y
  | _ => False
def aLoop (body : (Exit → St → Prop) → St → Prop) (Q : Exit → St → Prop) (s : St) : Prop :=
  ∃ I : Nat → St → Prop, (∃ n s0, s.to s0 ∧ I n s0) ∧ ∀ n s', I n s' → body (aThen (fun s1 => ∃ n' s2, n' < n ∧ s1.to s2 ∧ I n' s2) Q) s'
def awp (P : Program) : Code → (Exit → St → Prop) → St → Prop
  | .skip, Q, s => Q .normal s
  | .label _, Q, s => Q .normal s
  | .region id ops draw, Q, s =>
    match draw with
    | false => aOps P ops ops.toList s (Q .normal)
    | true => aPlan P id ops s (Q .normal)
  | .seq x y, Q, s => awp P x (aThen (awp P y Q) Q) s
  | .cond c x y, Q, s => aCond (s.ev c) (awp P x Q s) (awp P y Q s)
  | .block id b, Q, s => awp P b (aBlock id Q) s
  | .loop b, Q, s => aLoop (awp P b) Q s
  | .exit id, Q, s => Q (.exit id) s
  | .ret, Q, s => Q .ret s
  | _, _, _ => False
section
variable {P : Program} {w w0 : World} {φ φ0 : Places} {s s' : St} {K : Nat → Prop} {a : Act} {env : List Value}
theorem subL_get : ∀ {xs ys : List AV}, subL s s' xs ys → ys.length = xs.length ∧ ∀ (i : Nat) (y : AV), ys[i]? = some y → ∃ x, xs[i]? = some x ∧ x.sub s s' y
  | [], [], _ => ⟨rfl, fun i y h => by simp at h⟩
  | x :: xs, y :: ys, h => by
    obtain ⟨h1, h2⟩ := h
    obtain ⟨a1, a2⟩ := subL_get h2
    refine ⟨by simp [a1], fun i z hz => ?_⟩
    cases i with
    | zero => simp at hz; subst hz; exact ⟨x, rfl, h1⟩
    | succ i => simpa using a2 i z (by simpa using hz)
  | [], _ :: _, h => h.elim
  | _ :: _, [], h => h.elim
theorem rowsLE_get : ∀ {rs rs' : List Row}, rowsLE s s' rs rs' → rs'.length ≤ rs.length ∧ ∀ (i : Nat) (r' : Row), rs'[i]? = some r' → ∃ r, rs[i]? = some r ∧ rowLE s s' r r'
  | rs, [], _ => ⟨Nat.zero_le _, fun i y h => by simp at h⟩
  | r :: rs, r' :: rs', h => by
    obtain ⟨h1, h2⟩ := h
    obtain ⟨a1, a2⟩ := rowsLE_get h2
    refine ⟨by simp [a1], fun i z hz => ?_⟩
    cases i with
    | zero => simp at hz; subst hz; exact ⟨r, rfl, h1⟩
    | succ i => simpa using a2 i z (by simpa using hz)
  | [], _ :: _, h => h.elim
theorem VR.sub_ok {φ' : Places} (hsub : ∀ b, b < w.heap.size → ¬ φ.O b → ¬ φ'.O b) (hφ : ∀ (t : Nat) (r' : Row), s'.rows[t]? = some r' → φ'.l[t]? = φ.l[t]?) (hrow : ∀ (t : Nat) (r r' : Row), s.rows[t]? = some r → s'.rows[t]? = some r' → r'.ety = r.ety ∧ r'.size = r.size ∧ r'.ver < s'.ctr)
    {v : Value} {x : AV} (h : VR D w φ s.rows s.ctr v x) : ∀ {y : AV}, x.sub s s' y → VR D w φ' s'.rows s'.ctr v y := by
  have eqc : ∀ {v : Value} {x y : AV}, VR D w φ s.rows s.ctr v x → x = y ∧ x.pure = true → VR D w φ' s'.rows s'.ctr v y := fun h ⟨e, hp⟩ => by subst e; exact h.repure hp hsub
  induction h with
  | un v => intro y hs; cases y <;> first | exact .un v | exact eqc (.un v) hs
  | int k n => intro y hs; cases y <;> first | exact .un _ | exact eqc (.int k n) hs
  | bool b => intro y hs; cases y <;> first | exact .un _ | exact eqc (.bool b) hs
  | str b => intro y hs; cases y <;> first | exact .un _ | exact eqc (.str b) hs
  | nil => intro y hs; cases y <;> first | exact .un _ | exact eqc .nil hs
  | sl0 A cap c hm => intro y hs; cases y <;> first | exact .un _ | exact eqc (.sl0 A cap c hm) hs
  | sl ad c n cap cells vs hs0 hF hD hlt hn hm hl hc h1 hv ih => intro y hs; cases y <;> first | exact .un _ | exact eqc (.sl ad c n cap cells vs hs0 hF hD hlt hn hm hl hc h1 hv) hs
  | rd ad cells vs hs0 hF hlt hl hc h1 hv ih => intro y hs; cases y <;> first | exact .un _ | (exfalso; have := hs.2; simp [AV.pure] at this)
  | agg cs cells hl h1 hv ih =>
    intro y hs
    cases y with
    | un => exact .un _
    | agg ys =>
      obtain ⟨a1, a2⟩ := subL_get (show subL s s' cells ys from hs)
      refine .agg cs ys (by rw [a1]; exact hl) h1 fun j v u hv' hu => ?_
      obtain ⟨x, b1, b2⟩ := a2 j u hu
      exact ih j v x hv' b1 b2
    | _ => cases hs.1
  | tup vs us hl hv ih =>
    intro y hs
    cases y with
    | un => exact .un _
    | tup ys =>
      obtain ⟨a1, a2⟩ := subL_get (show subL s s' us ys from hs)
      refine .tup vs ys (by rw [a1]; exact hl) fun j v u hv' hu => ?_
      obtain ⟨x, b1, b2⟩ := a2 j u hu
      exact ih j v x hv' b1 b2
    | _ => cases hs.1
  | ref t ver off n v hlt h1 h =>
    intro y hs
    cases y with
    | un => exact .un _
    | ref t' ver' off' n' =>
      obtain ⟨⟨rfl, rfl, rfl⟩, h2, h3⟩ := (show (t' = t ∧ off' = off ∧ n' = n) ∧ (s.rows[t]?).map (·.ver) = some ver ∧ (s'.rows[t]?).map (·.ver) = some ver' from hs)
      rw [Option.map_eq_some_iff] at h2 h3
      obtain ⟨r, hr, rfl⟩ := h2
      obtain ⟨r', hr', rfl⟩ := h3
      obtain ⟨e1, e2, e3⟩ := hrow _ r r' hr hr'
      refine .ref _ _ _ _ _ e3 h1 fun r2 hr2 _ => ?_
      rw [hr'] at hr2; cases hr2
      rcases h r hr rfl with ⟨b1, b2, b3, b4⟩ | ⟨g, A, cap, cur, b1, b2, b3, b4, b5, b6, b7, b8⟩
      · exact .inl ⟨by rw [hφ _ r' hr']; exact b1, b2, b3, b4⟩
      · exact .inr ⟨g, A, cap, cur, by rw [hφ _ r' hr']; exact b1, b2, b3, b4, by rw [e1]; exact b5, b6, by rw [e2]; exact b7, by rw [e2]; exact b8⟩
    | _ => cases hs.1
  | ptr t ver off v hlt h1 h =>
    intro y hs
    cases y with
    | un => exact .un _
    | ptr t' ver' off' =>
      obtain ⟨⟨rfl, rfl⟩, h2, h3⟩ := (show (t' = t ∧ off' = off) ∧ (s.rows[t]?).map (·.ver) = some ver ∧ (s'.rows[t]?).map (·.ver) = some ver' from hs)
      rw [Option.map_eq_some_iff] at h2 h3
      obtain ⟨r, hr, rfl⟩ := h2
      obtain ⟨r', hr', rfl⟩ := h3
      obtain ⟨e1, e2, e3⟩ := hrow _ r r' hr hr'
      obtain ⟨g, b1, b2⟩ := h r hr rfl
      exact .ptr _ _ _ _ e3 h1 fun r2 hr2 _ => ⟨g, by rw [hφ _ r' hr']; exact b1, b2⟩
    | _ => cases hs.1
theorem CV.sub_ok {φ' : Places} (hsub : ∀ b, b < w.heap.size → ¬ φ.O b → ¬ φ'.O b) (hφ : ∀ (t : Nat) (r' : Row), s'.rows[t]? = some r' → φ'.l[t]? = φ.l[t]?) (hrow : ∀ (t : Nat) (r r' : Row), s.rows[t]? = some r → s'.rows[t]? = some r' → r'.ety = r.ety ∧ r'.size = r.size ∧ r'.ver < s'.ctr)
    {v : Value} {x y : AV} {F : Foot} (h : CV D w φ s.rows s.ctr v x F) (hs : x.sub s s' y) : ∃ F', (F' = F ∨ F' = noFoot) ∧ CV D w φ' s'.rows s'.ctr v y F' := by
  cases h with
  | vr _ _ h => exact ⟨noFoot, .inl rfl, .vr _ _ (VR.sub_ok hsub hφ hrow h hs)⟩
  | own0 e z hz =>
    cases y with
    | un => exact ⟨noFoot, .inl rfl, .vr _ _ (.un _)⟩
    | own e' z' n' cs' =>
      have hs : AV.own e z 0 [] = AV.own e' z' n' cs' ∧ _ := hs
      rw [← hs.1]
      exact ⟨noFoot, .inl rfl, .own0 e z hz⟩
    | _ => cases hs.1
  | own e z n g cap cur cells vs F hz hg hs0 hn hm hl hv hF hc =>
    cases y with
    | un => exact ⟨noFoot, .inr rfl, .vr _ _ (.un _)⟩
    | own e' z' n' cs' =>
      have hs : AV.own e z n cells = AV.own e' z' n' cs' ∧ (AV.own e z n cells).pure = true := hs
      rw [← hs.1]
      exact ⟨_, .inl rfl, (CV.own (D := D) (w := w) (φ := φ) (rows := s.rows) (ctr := s.ctr) e z n g cap cur cells vs F hz hg hs0 hn hm hl hv hF hc).repure hs.2 hsub⟩
    | _ => cases hs.1
theorem SR.le (h : SR D w φ env s) (hle : s.le s') : SR D w ⟨φ.l.take s'.rows.length, φ.O⟩ env s' := by
  obtain ⟨he, hrs, hlow, hlo⟩ := hle
  obtain ⟨r1, r2⟩ := rowsLE_get hrs
  obtain ⟨ω, hn⟩ := h.nest
  let φ' : Places := ⟨φ.l.take s'.rows.length, φ.O⟩
  have hφ : ∀ (t : Nat) (r' : Row), s'.rows[t]? = some r' → φ'.l[t]? = φ.l[t]? := fun t r' hr' => by
    show (φ.l.take s'.rows.length)[t]? = _
    rw [List.getElem?_take, if_pos (List.getElem?_eq_some_iff.1 hr').1]
  have hφ' : ∀ (t : Nat) (ob : Option Nat), φ'.l[t]? = some ob → φ.l[t]? = some ob := fun t ob h' => by
    have h' : (φ.l.take s'.rows.length)[t]? = some ob := h'
    rw [List.getElem?_take] at h'; split at h'
    · exact h'
    · cases h'
  have hrow : ∀ (t : Nat) (r r' : Row), s.rows[t]? = some r → s'.rows[t]? = some r' → r'.ety = r.ety ∧ r'.size = r.size ∧ r'.ver < s'.ctr := fun t r r' hr hr' => by
    obtain ⟨r0, a1, a2, _⟩ := r2 t r' hr'
    rw [hr] at a1; cases a1
    exact a2
  have hsub : ∀ b, b < w.heap.size → ¬ φ.O b → ¬ φ'.O b := fun b _ hF => hF
  obtain ⟨e1, e2⟩ := subL_get he
  have each : ∀ t : Nat, ∃ G : Nat → Foot, (∀ j, G j = ω t j ∨ G j = noFoot) ∧ (s'.rows[t]? = none → ∀ j, G j = noFoot) ∧ ∀ (r' : Row) (ob : Option Nat), s'.rows[t]? = some r' → φ'.l[t]? = some ob → RowOk D w φ' s'.rows s'.ctr r' ob G := fun t => by
    cases hr' : s'.rows[t]? with
    | none => exact ⟨fun _ => noFoot, fun _ => .inr rfl, fun _ _ => rfl, fun r' ob h => (by cases h)⟩
    | some r' =>
      obtain ⟨r0, a1, ⟨b1, b2, b3⟩, a3⟩ := r2 t r' hr'
      have htl : t < φ.l.length := by rw [h.len]; exact (List.getElem?_eq_some_iff.1 a1).1
      have hob : φ.l[t]? = some φ.l[t] := List.getElem?_eq_getElem htl
      have hold := hn.row t r0 _ a1 hob
      have hob' : φ'.l[t]? = some φ.l[t] := (hφ t r' hr').trans hob
      generalize φ.l[t] = ob0 at hob hold hob'
      cases ob0 with
      | none =>
        refine ⟨fun _ => noFoot, fun _ => .inr rfl, (fun h => by cases h), fun r'' ob h1 h2 => ?_⟩
        cases h1
        rw [hob'] at h2; cases h2
        refine ⟨?_, fun _ => rfl⟩
        rcases a3 with ⟨_, e⟩ | e
        · rw [e, hold.1]
        · rw [hold.1] at e
          exact List.eq_nil_of_length_eq_zero (subL_get e).1
      | some g =>
        obtain ⟨cur, d1, d2, d3, d4⟩ := hold
        have cell : ∀ j : Nat, ∃ G : Foot, (G = ω t j ∨ G = noFoot) ∧ (r'.cells[j]? = none → G = noFoot) ∧ ∀ u, r'.cells[j]? = some u → ∃ v, cur[j]? = some v ∧ v.oneCell' = true ∧ CV D w φ' s'.rows s'.ctr v u G := fun j => by
          cases hu : r'.cells[j]? with
          | none => exact ⟨noFoot, .inr rfl, fun _ => rfl, fun u h => by cases h⟩
          | some u =>
            rcases a3 with ⟨hp, e⟩ | e
            · rw [e] at hu
              obtain ⟨v, f1, f2, f3⟩ := d4 j u hu
              exact ⟨ω t j, .inl rfl, (fun h => by cases h), fun u' h => by cases h; exact ⟨v, f1, f2, f3.repure (pureL_get hp hu) hsub⟩⟩
            · obtain ⟨x, g1, g2⟩ := (subL_get e).2 j u hu
              obtain ⟨v, f1, f2, f3⟩ := d4 j x g1
              obtain ⟨G, k1, k2⟩ := f3.sub_ok hsub hφ hrow g2
              exact ⟨G, k1, (fun h => by cases h), fun u' h => by cases h; exact ⟨v, f1, f2, k2⟩⟩
        refine ⟨fun j => Classical.choose (cell j), fun j => (Classical.choose_spec (cell j)).1, (fun h => by cases h), fun r'' ob h1 h2 => ?_⟩
        cases h1
        rw [hob'] at h2; cases h2
        have hlen : r'.cells.length ≤ cur.size := by
          rcases a3 with ⟨_, e⟩ | e
          · rw [e]; exact d2
          · rw [(subL_get e).1]; exact d2
        exact ⟨cur, by rw [b1]; exact d1, hlen, fun j => (Classical.choose_spec (cell j)).2.1, fun j u hu => (Classical.choose_spec (cell j)).2.2 u hu⟩
  have back : ∀ t j p b, Classical.choose (each t) j p b → ω t j p b := fun t j p b hb => by
    rcases (Classical.choose_spec (each t)).1 j with e | e
    · rw [e] at hb; exact hb
    · rw [e] at hb; exact hb.elim
  refine ⟨h.dis, h.dlt, by simp only [List.length_take]; rw [h.len, Nat.min_eq_left r1], hlo, fun t t' g hg hg' => h.inj t t' g (hφ' t _ hg) (hφ' t' _ hg'), h.lt, fun g hg => h.occ g (List.mem_of_mem_take hg), fun r hr => ?_,
    ⟨fun t => Classical.choose (each t), fun t r' ob hr' hob => (Classical.choose_spec (each t)).2.2 r' ob hr' hob, fun t ht => (Classical.choose_spec (each t)).2.1 ht,
      ⟨fun t t' j j' p p' b h1 h2 => hn.ap.uq _ _ _ _ _ _ b (back _ _ _ _ h1) (back _ _ _ _ h2), fun t j p b h1 hm => hn.ap.nf _ _ _ _ (back _ _ _ _ h1) (List.mem_of_mem_take hm), fun t j p b h1 => hn.ap.oc _ _ _ _ (back _ _ _ _ h1)⟩⟩,
    fun t r' hr' hz => ?_, by rw [e1]; exact h.elen, fun i v u hv hu => ?_⟩
  · obtain ⟨t, ht⟩ := List.getElem?_of_mem hr
    obtain ⟨r0, a1, a2, _⟩ := r2 t r ht
    exact a2.2.2
  · obtain ⟨r0, a1, ⟨b1, b2, b3⟩, _⟩ := r2 t r' hr'
    show φ'.l[t]? = _
    rw [hφ t r' hr']
    exact h.sz0 t r0 a1 (by omega)
  · obtain ⟨x, a1, a2⟩ := e2 i u hu
    exact VR.sub_ok hsub hφ hrow (h.env i v x hv a1) a2
theorem Inv.le (h : Inv D K w0 φ0 φ a w s) (hle : s.le s') : Inv D K w0 φ0 ⟨φ.l.take s'.rows.length, φ.O⟩ a w s' := by
  have hle' := hle
  obtain ⟨he, _, hlow, hlo⟩ := hle
  refine ⟨h.sr.le hle', h.kp, h.ap, ?_, hlow.trans h.lc, h.kl, h.df⟩
  rw [hlow]
  refine h.lw.trans (Lows.new (fun i hi => ?_) (fun _ _ => rfl))
  show (φ.l.take s'.rows.length)[i]? = _
  rw [List.getElem?_take, if_pos (by omega)]
theorem Inv.to (h : Inv D K w0 φ0 φ a w s) (hto : s.to s') : ∃ φ', Inv D K w0 φ0 φ' a w s' := by
  obtain ⟨s1, h1, h2⟩ := hto
  obtain ⟨φ1, h3, _⟩ := h.closes h1
  exact ⟨_, h3.le h2⟩
theorem exists_min {p : Nat → Prop} (h : ∃ n, p n) : ∃ n, p n ∧ ∀ m, p m → n ≤ m := by
  obtain ⟨n, hn⟩ := h
  induction n using Nat.strongRecOn with
  | _ n ih =>
    by_cases hm : ∃ m, m < n ∧ p m
    · obtain ⟨m, h1, h2⟩ := hm
      exact ih m h1 h2
    · refine ⟨n, hn, fun m h' => ?_⟩
      rcases Nat.lt_or_ge m n with h1 | h1
      · exact absurd ⟨m, h1, h'⟩ hm
      · exact h1
theorem awp_ok : ∀ (c : Code) {Q : Exit → St → Prop} {a : Act} {w : World} {s : St} {φ : Places}, Inv D K w0 φ0 φ a w s → awp P c Q s → c.wp P (fun e a' w' => Post D K w0 φ0 (Q e) a' w') a w
  | .skip, Q, a, w, s, φ, h, hk => wp_skip ⟨φ, s, h, hk⟩
  | .label l, Q, a, w, s, φ, h, hk => wp_label ⟨φ, s, h, hk⟩
  | .exit id, Q, a, w, s, φ, h, hk => wp_exit ⟨φ, s, h, hk⟩
  | .ret, Q, a, w, s, φ, h, hk => wp_ret ⟨φ, s, h, hk⟩
  | .region id ops draw, Q, a, w, s, φ, h, hk => by
    cases draw with
    | false => exact wp_region_list (aOps_wp (fun a w hp => hp) ops.toList h hk)
    | true =>
      have hc0 : Cls w { w with drawn := w.drawn + 1 } := ⟨⟨Nat.le_refl _, fun _ _ => rfl⟩, rfl, rfl, rfl⟩
      have plain : ∀ {k : St → Prop} {Q' : Exit → Act → World → Prop}, aPlan0 P id ops s k → (∀ a' w', Post D K w0 φ0 k a' w' → Q' .normal a' w') → (Code.region id ops true).wp P Q' a w := fun {k Q'} hk hQ => by
        obtain ⟨hm, q, ⟨l, hB, hx⟩ | ⟨t, hB, hx⟩⟩ := hk
        · exact wp_region_plan l hm hB (aOpsX_walk (fun a w hp => hQ a w hp) l (h.cls hc0) hx)
        · exact wp_region_tree t hm hB (aTree_walk (fun a w hp => hQ a w hp) t (h.cls hc0) hx)
      rcases hk with hk | ⟨C, hk, hC⟩
      · exact plain hk fun _ _ h => h
      · refine plain hk ?_
        rintro a' w' ⟨φ', s', h', ht⟩
        obtain ⟨φ'', h''⟩ := h'.to ht
        exact ⟨φ'', C, h'', hC⟩
  | .seq x y, Q, a, w, s, φ, h, hk => by
    refine wp_seq (wp_mono (awp_ok x h hk) ?_)
    rintro e a' w' ⟨φ', s', h', hk'⟩
    cases e with
    | normal => exact awp_ok y h' hk'
    | exit id => exact ⟨φ', s', h', hk'⟩
    | ret => exact ⟨φ', s', h', hk'⟩
    | _ => exact hk'.elim
  | .cond c x y, Q, a, w, s, φ, h, hk => by
    simp only [awp] at hk
    have hc := h.sr.ev c
    generalize s.ev c = cu at hk hc
    unfold aCond at hk
    split at hk
    · rename_i b
      have hb := hc.bool_inv
      refine wp_cond_split hb (fun e => ?_) (fun e => ?_)
      · exact awp_ok x h (hk.1 e)
      · exact awp_ok y h (hk.2 e)
    · exact hk.elim
  | .block id b, Q, a, w, s, φ, h, hk => by
    refine wp_block (wp_mono (awp_ok b h hk) ?_)
    rintro e a' w' ⟨φ', s', h', hk'⟩
    cases e with
    | normal => exact ⟨φ', s', h', hk'⟩
    | exit id' =>
      simp only [aBlock] at hk'
      simp only [Exit.inBlock]
      split
      · rename_i e; rw [if_pos e] at hk'; exact ⟨φ', s', h', hk'⟩
      · rename_i e; rw [if_neg e] at hk'; exact ⟨φ', s', h', hk'⟩
    | ret => exact ⟨φ', s', h', hk'⟩
    | _ => exact hk'.elim
  | .loop b, Q, a, w, s, φ, h, hk => by
    obtain ⟨I, ⟨n, s0, hle, hI⟩, hround⟩ := hk
    let J : Nat → Act → World → Prop := fun n a w => ∃ φ s, Inv D K w0 φ0 φ a w s ∧ I n s
    have hmin : ∀ a w, ∃ n, (∃ m, J m a w) → J n a w ∧ ∀ m, J m a w → n ≤ m := fun a w => by
      by_cases hx : ∃ m, J m a w
      · obtain ⟨n, h1, h2⟩ := exists_min hx
        exact ⟨n, fun _ => ⟨h1, h2⟩⟩
      · exact ⟨0, fun h' => absurd h' hx⟩
    let μ : Act → World → Nat := fun a w => Classical.choose (hmin a w)
    have hμ := fun a w => Classical.choose_spec (hmin a w)
    obtain ⟨φs, hs0⟩ := h.to hle
    refine wp_loop (fun a w => ∃ m, J m a w) μ ⟨n, φs, s0, hs0, hI⟩ fun a1 w1 hJ => ?_
    obtain ⟨⟨φ1, s1, i1, i2⟩, hleast⟩ := hμ a1 w1 hJ
    refine wp_mono (awp_ok b i1 (hround _ s1 i2)) ?_
    rintro e a' w' ⟨φ', s', h', hk'⟩
    cases e with
    | normal =>
      obtain ⟨n', s2, hlt, hle', hI'⟩ := hk'
      obtain ⟨φ2, h2⟩ := h'.to hle'
      have hJ' : J n' a' w' := ⟨φ2, s2, h2, hI'⟩
      exact ⟨⟨n', hJ'⟩, Nat.lt_of_le_of_lt ((hμ a' w' ⟨n', hJ'⟩).2 n' hJ') hlt⟩
    | exit id => exact ⟨φ', s', h', hk'⟩
    | ret => exact ⟨φ', s', h', hk'⟩
    | _ => exact hk'.elim
  | .rangeFunc f p as b, Q, a, w, s, φ, h, hk => hk.elim
  | .scope b, Q, a, w, s, φ, h, hk => hk.elim
  | .goto l, Q, a, w, s, φ, h, hk => hk.elim
  | .refuse y, Q, a, w, s, φ, h, hk => hk.elim
end
end Go.Am
namespace Go.Am
open Go.RowKit
variable {D : Nat → Prop}
def aResL (P : Program) (s : St) : List ResultVar → (List AV → Prop) → Prop
  | [], k => k []
  | .tmp t :: rs, k => aResL P s rs fun us => k (s.env.getD t .un :: us)
  | .cell p t :: rs, k => aLoad P s t (s.env.getD p .un) fun u => aResL P s rs fun us => k (u :: us)
def oneOf : List AV → AV
  | [u] => u
  | us => .tup us
def RetB1 (s : St) (ins : List Row) (post : AV → List (List AV) → List Row → Prop) (u : AV) : Prop :=
  ∃ L rows r ic news, (List.range s.low ++ L).Nodup ∧ insOf s (List.range s.low ++ L) (List.range s.low ++ L) = some rows ∧ u.ren s (List.range s.low ++ L) = some r ∧ rows = upd ins ic ++ news ∧ ic.length = ins.length ∧ post r ic news
def RetB (s : St) (ins : List Row) (post : AV → List (List AV) → List Row → Prop) (u : AV) : Prop := ∃ s1, St.closes s s1 ∧ RetB1 s1 ins post u
theorem RetB1.ret {s : St} {ins : List Row} {post : AV → List (List AV) → List Row → Prop} {u : AV} (h : RetB1 s ins post u) : RetB s ins post u := ⟨s, .refl s, h⟩
def aRet (P : Program) (fn : Func) (ins : List Row) (post : AV → List (List AV) → List Row → Prop) (s : St) : Prop :=
  aResL P s fn.results.toList fun us => forceV (oneOf us) fun u => RetB s ins post u
def aRetQ (P : Program) (fn : Func) (ins : List Row) (post : AV → List (List AV) → List Row → Prop) : Exit → St → Prop
  | .normal, s => aRet P fn ins post s
  | .ret, s => aRet P fn ins post s
  | _, _ => False
section
variable {P : Program} {w w0 : World} {φ φ0 : Places} {s : St} {K : Nat → Prop} {a : Act} {env : List Value}
def resOne (tmps : Array Value) : ResultVar → Sem Value
  | .tmp t => pure (tmps.getD t undef)
  | .cell p t => do loadVar t (← asAddr (tmps.getD p undef))
theorem results_eq (fn : Func) (tmps : Array Value) : results fn tmps = (do let vs ← fn.results.mapM (resOne tmps); pure (if h : vs.size = 1 then vs[0] else .tuple vs)) := by
  have e : resOne tmps = fun (r : ResultVar) => match r with
    | .tmp t => (pure (tmps.getD t undef) : Sem Value)
    | .cell a t => (do loadVar t (← asAddr (tmps.getD a undef)) : Sem Value) := by funext r; cases r <;> rfl
  rw [e]
  rfl
theorem aResL_ok (h : SR D w φ a.tmps.toList s) : ∀ (rs : List ResultVar) {k : List AV → Prop}, aResL P s rs k → ∃ (vs : List Value) (us : List AV), (rs.mapM (resOne a.tmps)).run P w = .ok vs w ∧ vs.length = us.length ∧
    us.length = rs.length ∧ (∀ (j : Nat) (v : Value) (u : AV), vs[j]? = some v → us[j]? = some u → VR D w φ s.rows s.ctr v u) ∧ k us
  | [], k, hk => ⟨[], [], by simp, rfl, rfl, fun j v u h => by simp at h, hk⟩
  | .tmp t :: rs, k, hk => by
    obtain ⟨vs, us, h1, h2, h3, h4, h5⟩ := aResL_ok h rs (k := fun us => k (s.env.getD t .un :: us)) hk
    refine ⟨a.tmps.getD t undef :: vs, s.env.getD t .un :: us, by simp [List.mapM_cons, resOne, h1], by simp [h2], by simp [h3], fun j v u hv hu => ?_, h5⟩
    cases j with
    | zero => simp only [List.getElem?_cons_zero, Option.some.injEq] at hv hu; subst hv; subst hu; exact h.evTmp t
    | succ j => exact h4 j v u (by simpa using hv) (by simpa using hu)
  | .cell p t :: rs, k, hk => by
    obtain ⟨v, u, l1, l2, l3⟩ := aLoad_ok h (h.evTmp p) (k := fun u => aResL P s rs fun us => k (u :: us)) hk
    obtain ⟨vs, us, h1, h2, h3, h4, h5⟩ := aResL_ok h rs (k := fun us => k (u :: us)) l3
    have hload := l1 w (Ext.refl w)
    have hrun : (resOne a.tmps (.cell p t)).run P w = .ok v w := by
      show Sem.run P (asAddr (a.tmps.getD p undef) >>= fun x => loadVar t x) w = _
      unfold Instr.loadAt at hload
      generalize a.tmps.getD p undef = pv at hload ⊢
      cases pv with
      | pointer o =>
        cases o with
        | some ad => simpa [Instr.sureAddr, asAddr] using hload
        | none => simp [Instr.sureAddr] at hload
      | _ => simp [Instr.sureAddr] at hload
    refine ⟨v :: vs, u :: us, ?_, by simp [h2], by simp [h3], fun j v' u' hv hu => ?_, h5⟩
    · simp [List.mapM_cons, hrun, h1]
    · cases j with
      | zero => simp only [List.getElem?_cons_zero, Option.some.injEq] at hv hu; subst hv; subst hu; exact l2
      | succ j => exact h4 j v' u' (by simpa using hv) (by simpa using hu)
theorem results_ok (h : SR D w φ a.tmps.toList s) {fn : Func} {k : List AV → Prop} (hk : aResL P s fn.results.toList k) : ∃ v us, (results fn a.tmps).run P w = .ok v w ∧ VR D w φ s.rows s.ctr v (oneOf us) ∧ k us := by
  obtain ⟨vs, us, h1, h2, h3, h4, h5⟩ := aResL_ok (P := P) h fn.results.toList hk
  have hrun : (results fn a.tmps).run P w = .ok (if h : vs.toArray.size = 1 then vs.toArray[0] else .tuple vs.toArray) w := by
    rw [results_eq, Sem.run_bind, Array.mapM_eq_mapM_toList]
    simp only [Sem.run_map, h1, Result.andThen_ok]
    rfl
  refine ⟨_, us, hrun, ?_, h5⟩
  by_cases h0 : vs.toArray.size = 1
  · rw [dif_pos h0]
    match vs, us, h2, h4, h0 with
    | [v], [u], _, h4, _ => exact h4 0 v u rfl rfl
    | [], _, _, _, h0 => simp at h0
    | _ :: _ :: _, _, _, _, h0 => simp at h0
    | [v], [], h2, _, _ => simp at h2
    | [v], _ :: _ :: _, h2, _, _ => simp at h2
  · rw [dif_neg h0]
    have : oneOf us = .tup us := by
      match us, h2 with
      | [], _ => rfl
      | [u], h2 => simp at h2; simp [h2] at h0
      | _ :: _ :: _, _ => rfl
    rw [this]
    exact .tup _ _ (by simp [h2]) (fun j v u hv hu => h4 j v u (by simpa using hv) hu)
end
theorem sound_of {P : Program} {f : FuncId} {fn : Func} {c : Code} {sp : CSpec} (hf : P.funcs[f]? = some fn) (hb : fn.body = some c) (hent : Enters P f)
    (h' : ∀ x, sp.pre x → forceL (sp.args x ++ List.replicate (fn.ntmps - (sp.args x).length) .un) fun env => forceR (sp.ins x) fun rows => forceN (sp.ins x).length fun low => awp P c (aRetQ P fn (sp.ins x) (sp.post x)) ⟨env, rows, 1, low⟩) : Sound P f sp := by
  have h : ∀ x, sp.pre x → awp P c (aRetQ P fn (sp.ins x) (sp.post x)) ⟨sp.args x ++ List.replicate (fn.ntmps - (sp.args x).length) .un, sp.ins x, 1, (sp.ins x).length⟩ := fun x hx => by
    have := h' x hx
    rwa [forceL_eq, forceR_eq, forceN_eq] at this
  refine ⟨hent, fun x hpre D w vs φ hsr hver => ?_⟩
  have hl : vs.size = (sp.args x).length := by simpa using hsr.elen
  let K : Nat → Prop := fun b => b < w.heap.size ∧ ¬ φ.O b
  have hinv : Inv D K w φ φ { tmps := vs ++ Array.replicate (fn.ntmps - vs.size) undef, defers := [] } w ⟨sp.args x ++ List.replicate (fn.ntmps - (sp.args x).length) .un, sp.ins x, 1, (sp.ins x).length⟩ := by
    refine ⟨⟨hsr.dis, hsr.dlt, hsr.len, hsr.lo, hsr.inj, hsr.lt, hsr.occ, hsr.ver, hsr.nest, hsr.sz0, by simp [hl], fun i v u hv hu => ?_⟩, Keeps.refl _ _, fun g hg hK => hK.2 hg, Lows.refl _ _ _, hsr.len.symm, fun b hb => hb.1, rfl⟩
    simp only [Array.toList_append, Array.toList_replicate] at hv
    by_cases hi : i < vs.size
    · rw [List.getElem?_append_left (by simpa using hi)] at hv
      rw [List.getElem?_append_left (by omega)] at hu
      exact hsr.env i v u hv hu
    · rw [List.getElem?_append_right (by omega), List.getElem?_replicate] at hu
      split at hu
      · cases hu; exact .un v
      · cases hu
  refine calls_of_wp hf hb (wp_mono (awp_ok c hinv (h x hpre)) ?_)
  have hfv : ∀ s, aRet P fn (sp.ins x) (sp.post x) s → aResL P s fn.results.toList fun us => RetB s (sp.ins x) (sp.post x) (oneOf us) := fun s hs => by
    unfold aRet at hs
    simpa only [forceV_eq] using hs
  have key : ∀ (a : Act) (w' : World), Post D K w φ (aRet P fn (sp.ins x) (sp.post x)) a w' → a.defers = [] ∧ ∃ v, (results fn a.tmps).run P w' = .ok v w' ∧ Left1 D w φ (sp.ins x) (sp.post x) (.returned v) w' := by
    rintro a w' ⟨φf0, sf0, hinv0, hret⟩
    obtain ⟨v, us, hrun, hvr0, sf, hcl, L, rows, r, ic, news, hTn, hrows, hren, hsplit, hic, hpost⟩ := results_ok (P := P) hinv0.sr (hfv sf0 hret)
    obtain ⟨φf, hinv', hmv⟩ := hinv0.closes hcl
    have hvr := hvr0.mv hmv
    obtain ⟨ω, hne⟩ := hinv'.sr.nest
    have hlow : sf.low = φ.l.length := hinv'.lc
    have hφl : φ.l.length = (sp.ins x).length := hsr.len
    generalize hT : List.range sf.low ++ L = T at hTn hrows hren
    obtain ⟨e1, e2, e3, e4⟩ := hinv'.sr.enter hne (args := []) (us := []) (vs := #[]) (bs := []) (T := T) (ins := rows) hTn rfl hrows rfl (fun j v u hv => by simp at hv)
    have hφc : ∀ (i τ : Nat), T[i]? = some τ → (φf.sub ω T).l[i]? = φf.l[τ]? := by
      intro i τ hτ
      obtain ⟨r, c, hr, _⟩ := e4 i τ hτ
      have : τ < φf.l.length := by rw [hinv'.sr.len]; exact (List.getElem?_eq_some_iff.1 hr).1
      simp [Places.sub, List.getElem?_map, hτ, List.getD, List.getElem?_eq_getElem this]
    have hTl : ∀ i, i < φ.l.length → T[i]? = some i := fun i hi => by
      rw [← hT, List.getElem?_append_left (by simp [hlow, hi])]
      simp [hlow, hi]
    obtain ⟨i1, i2⟩ := mapM_get hrows
    have hcells : ∀ r' ∈ rows, resOkL r'.cells = true := fun r' hr' => by
      obtain ⟨i, hi⟩ := List.getElem?_of_mem hr'
      obtain ⟨τ, _, hb⟩ := i2 i r' hi
      simp only [Option.bind_eq_some_iff, Option.map_eq_some_iff] at hb
      obtain ⟨r0, hr0, c, hc, rfl⟩ := hb
      exact renL_resOk hc
    have hicp : ∀ c ∈ ic, resOkL c = true := fun c hc => by
      obtain ⟨i, hi⟩ := List.getElem?_of_mem hc
      have hlt : i < (sp.ins x).length := by rw [← hic]; exact (List.getElem?_eq_some_iff.1 hi).1
      have hu : rows[i]? = some { (sp.ins x)[i] with cells := c } := by
        rw [hsplit, List.getElem?_append_left (by rw [upd_length hic]; exact hlt), upd_get (List.getElem?_eq_getElem hlt) hi]
      exact hcells _ (List.mem_of_getElem? hu)
    have hnp : ∀ n ∈ news, n.ver = 0 ∧ resOkL n.cells = true := fun n hn => by
      have hm : n ∈ rows := by rw [hsplit]; exact List.mem_append.2 (.inr hn)
      exact ⟨e2 n hm, hcells n hm⟩
    have hvc : VR D w' (φf.sub ω T) rows 1 v r := SR.ren e1.dis hφc e4 hvr hren
    refine ⟨hinv'.df, v, hrun, v, r, ic, news, φf.sub ω T, rfl, hpost, hic, hicp, hnp, ren_resOk hren, hinv'.kp, ?_, ?_, ?_⟩
    · rw [← hsplit]
      refine ⟨e1.dis, e1.dlt, e1.len, Nat.zero_le _, e1.inj, e1.lt, e1.occ, e1.ver, e1.nest, e1.sz0, rfl, fun i v' u hv hu => ?_⟩
      cases i with
      | zero =>
        simp at hv hu
        subst hv; subst hu
        exact hvc
      | succ i => simp at hv
    · have hlw := hinv'.lw
      rw [hlow, hφl] at hlw
      refine ⟨fun i hi => ?_, hlw.bl⟩
      rw [hφc i i (hTl i (by rw [hφl]; exact hi))]
      exact hlw.pl i hi
    · intro b hb
      have hO : φf.O b := by
        obtain ⟨τ, _, h1 | ⟨j, p, h1⟩⟩ := hb
        · exact hinv'.sr.occ b (List.mem_of_getElem? h1)
        · exact hne.ap.oc τ j p b h1
      have hnK := hinv'.ap b hO
      rcases Nat.lt_or_ge b w.heap.size with h2 | h2
      · left
        exact Classical.byContradiction fun h3 => hnK ⟨h2, h3⟩
      · exact .inr h2
  intro e a w' hp
  cases e with
  | normal => exact key a w' hp
  | ret => exact key a w' hp
  | exit id => obtain ⟨_, _, _, hf⟩ := hp; exact hf.elim
  | goto l => obtain ⟨_, _, _, hf⟩ := hp; exact hf.elim
  | panic ch => obtain ⟨_, _, _, hf⟩ := hp; exact hf.elim
  | outgrown => obtain ⟨_, _, _, hf⟩ := hp; exact hf.elim
end Go.Am
namespace Go.Am
open Go.RowKit Go.WideShapes Go.ChangeShapes
inductive ArgOk (P : Program) : TypeId → AV → Prop
  | int (t : TypeId) (n : Int) (ht : P.underlying t = some (.int .i64)) (hn : (Lit.int .i64 n).wf = true) : ArgOk P t (.int .i64 n)
  | ints (t e : TypeId) (k : IntKind) (zs : List Int) (ht : P.underlying t = some (.slice e)) (he : P.underlying e = some (.int k)) (hz : ∀ z ∈ zs, (Lit.int k z).wf = true) : ArgOk P t (.sl 1 zs.length (zs.map (.int k)))
def opens (P : Program) (t : TypeId) : Bool :=
  match P.underlying t with
  | some (.int .i64) => true
  | some (.slice e) => (match P.underlying e with | some (.int _) => true | _ => false) && P.cellsOf e == 1
  | _ => false
section
variable {H : Type} {enc : TypeId × Value → H} {P : Program} {W : World}
theorem args_stay {sp : Nat → Bool} {W' : World} (hl : laidOutB P = true) : ∀ {ts : List TypeId} {vs : List Value} {ds : List (DataW H)} {p : List MemPlace}, ts.all (fun t => P.readableRec t && decide (t < P.types.size)) = true →
    DataW.TrodAll enc P W 0 (fun _ => true) true ts vs ds p → (∀ x ∈ p, W.sameAt W' x) → (∀ x ∈ p, sp x.block = true) → DataW.TrodAll enc P W' 0 sp true ts vs ds p
  | [], vs, ds, p, _, h, _, _ => by
    obtain ⟨rfl, rfl, rfl⟩ := trodAll_nil h
    exact rfl
  | t :: ts, vs, ds, p, hr, h, hsame, hsp => by
    obtain ⟨v, vs', d, ds', p1, q, rfl, rfl, rfl, hd, hrest⟩ := trodAll_cons h
    simp only [List.all_cons, Bool.and_eq_true, decide_eq_true_eq] at hr
    exact ⟨p1, q, WideElems.Trod_stays hl hr.1.1 hr.1.2 hd (fun x hx => hsame x (List.mem_append.2 (.inl hx))) (fun x hx => hsp x (List.mem_append.2 (.inl hx))),
      args_stay hl hr.2 hrest (fun x hx => hsame x (List.mem_append.2 (.inr hx))) (fun x hx => hsp x (List.mem_append.2 (.inr hx))), rfl⟩
end
end Go.Am
