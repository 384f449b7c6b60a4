/- The abstract machine, part M: lists of operations, regions in whatever order, code, loops. -/
import Derived.Test.YtmhpandbmoalaaaAmL
namespace Go.Am
open Go.RowKit
variable {D : Nat → Prop}

section
variable {P : Program} {w w0 : World} {φ φ0 : Places} {s : St} {K : Nat → Prop} {a : Act}

theorem put_same {a : Act} {d : Nat} {v : Value} (h : a.tmps[d]? = some v) : a.put (some d) v = a := by
  cases a with
  | mk tmps defers =>
    simp only [Act.put, Act.mk.injEq, and_true]
    apply Array.ext_getElem?
    intro i
    rw [Array.getElem?_setIfInBounds]
    simp only at h
    split
    · rename_i e; subst e
      obtain ⟨h1, h2⟩ := Array.getElem?_eq_some_iff.1 h
      rw [if_pos h1, h]
    · rfl

theorem undef_of {v : Value} {rows : List Row} {ctr : Nat} (h : VR D w φ rows ctr v (.tup [])) : v = undef := by
  cases h with
  | tup vs us hl hv =>
    have : vs = #[] := Array.eq_empty_of_size_eq_zero (by simpa using hl)
    rw [this]; rfl
theorem undef_VR {rows : List Row} {ctr : Nat} : VR D w φ rows ctr undef (.tup []) := .tup #[] [] rfl (fun j v u h => by simp at h)

theorem guard_ok {all : Array Oper} {j : Nat} {k : Tmp → Bool → Prop} {ks : Prop} (h : Inv D K w0 φ0 φ a w s) (hk : aGuard all s j k ks) :
    (∃ (d : Nat) (b : Bool), a.tmps[d]? = some (.bool b) ∧ yielded all a.tmps j = some b ∧ k d b ∧ Inv D K w0 φ0 φ a w (s.put (some d) (.bool b))) ∨ (yielded all a.tmps j = none ∧ ks) := by
  unfold aGuard at hk
  split at hk
  case h_2 => exact hk.elim
  rename_i d hd
  have hv := h.sr.evTmp d
  split at hk
  case h_3 => exact hk.elim
  · rename_i b hb
    left
    rw [hb] at hv
    have hval := hv.bool_inv
    have hlt : d < a.tmps.size := by
      rcases Nat.lt_or_ge d a.tmps.size with h' | h'
      · exact h'
      · exfalso
        have hl := h.sr.elen
        simp only [Array.length_toList] at hl
        have e1 : s.env[d]? = none := List.getElem?_eq_none (by omega)
        simp [List.getD, e1] at hb
    have hget : a.tmps[d]? = some (.bool b) := by
      rw [← hval]
      simp [Array.getD, hlt]
    refine ⟨d, b, hget, ?_, hk, ?_⟩
    · simp only [yielded, hd, Option.bind_some]
      have : (a.tmps[d]? : Option Value) = some (.bool b) := hget
      simp only [this]
    · have := h.put (some d) (VR.bool b)
      rwa [put_same hget] at this
  · rename_i hb
    right
    refine ⟨?_, hk⟩
    rw [hb] at hv
    have hval := undef_of hv
    simp only [yielded, hd, Option.bind_some]
    rcases Nat.lt_or_ge d a.tmps.size with hlt | hge
    · have : (a.tmps[d]? : Option Value) = some undef := by
        rw [← hval]; simp [Array.getD, hlt]
      simp only [this]
      rfl
    · have : (a.tmps[d]? : Option Value) = none := Array.getElem?_eq_none hge
      simp only [this]

theorem aOps_wp {ops : Array Oper} {k : St → Prop} {Q : Exit → Act → World → Prop} (hQ : ∀ a w, Post D K w0 φ0 k a w → Q .normal a w) : ∀ (l : List Oper) {a : Act} {w : World} {s : St} {φ : Places}, Inv D K w0 φ0 φ a w s → aOps P ops l s k → wpList P ops Q l a w
  | [], a, w, s, φ, h, hk => hQ a w ⟨φ, s, h, hk⟩
  | o :: rest, a, w, s, φ, h, hk => by
    unfold aOps at hk
    simp only [putK_eq] at hk
    unfold wpList
    split at hk
    · rename_i hg
      rw [if_pos (by simp [Region.wanted, hg])]
      exact .inl (aOp_wp h hk fun a' w' ⟨φ', s', h', hk'⟩ => aOps_wp hQ rest h' hk')
    · rename_i j want hg
      rcases guard_ok h hk with ⟨d, b, h1, h2, ⟨k1, k2⟩, h3⟩ | ⟨h2, k3⟩
      case inr =>
        rw [if_neg (by simp [Region.wanted, hg, h2])]
        exact aOps_wp hQ rest (h.put o.dst undef_VR) k3
      by_cases e : b = want
      · subst e
        rw [if_pos (by simp [Region.wanted, hg, h2])]
        exact .inl (aOp_wp h3 (k1 (by simp)) fun a' w' ⟨φ', s', h', hk'⟩ => aOps_wp hQ rest h' hk')
      · have e' : b = !want := by cases b <;> cases want <;> simp_all
        subst e'
        rw [if_neg (by simp [Region.wanted, hg, h2])]
        exact aOps_wp hQ rest (h3.put o.dst undef_VR) (k2 (by cases want <;> rfl))

/-- The worlds that a quiet region may reach. -/
structure Cls (w w' : World) : Prop where
  ext : Ext w w'
  os : w'.os = w.os
  tape : w'.tape = w.tape
  output : w'.output = w.output

theorem Inv.cls (h : Inv D K w0 φ0 φ a w s) {w' : World} (hc : Cls w w') : Inv D K w0 φ0 φ a w' s :=
  ⟨h.sr.same hc.ext.sz hc.ext.bl, h.kp.trans (K' := fun b => b < w.heap.size) ⟨hc.os, hc.tape, hc.output, hc.ext.sz, hc.ext.bl⟩ h.hKl, h.ap, h.lw.trans (Lows.new (fun _ _ => rfl) hc.ext.bl), h.lc, h.kl, h.df⟩

theorem VR.val_inv {v x : Value} {u : AV} {rows : List Row} {ctr : Nat} (h : VR D w φ rows ctr v u) (hu : u.val = some x) : v = x := by
  cases h <;> simp [AV.val] at hu <;> exact hu

theorem aQop_ok {o : Oper} {k : AV → Prop} {next : Act → Prop} (h : Inv D K w0 φ0 φ a w s) (hk : aQop P o s k) (hn : ∀ v u, VR D w φ s.rows s.ctr v u → k u → next (a.put o.dst v)) : o.quiet P a (Cls w) next := by
  have plain : aVal P o s k → o.quiet P a (Cls w) next := fun hk => by
    obtain ⟨v, u, h1, h2, h3⟩ := aVal_ok h.sr hk
    refine ⟨v, fun w' hc => ?_, hn v u h2 h3⟩
    unfold Oper.quietAt
    rw [h1 w' hc.ext]
    exact ⟨rfl, rfl⟩
  unfold aQop at hk
  split at hk
  · rename_i c ho
    split at hk
    · rename_i f hc
      obtain ⟨sp, ⟨hent, hcall⟩, us, hm, ha, x, rfl, hins, hpre, u, hu, hdet, hk⟩ := hk
      obtain ⟨val, hval⟩ := Option.isSome_iff_exists.1 hu
      have hvu : VR D w φ s.rows s.ctr val u := by
        cases u <;> simp [AV.val] at hval <;> subst hval
        · exact .int _ _
        · exact .bool _
        · exact .str _
      refine ⟨val, fun w' hcls => ?_, hn val u hvu hk⟩
      unfold Oper.quietAt
      have h' := h.cls hcls
      obtain ⟨e1, e2⟩ := evs_ok h'.sr c.args
      have hrun : (execOp a.eval o).run P w' = .ok (.enter f (c.args.map a.eval)) w' := by
        have h1 : ∀ ty, (resolve a.eval c ty).run P w' = .ok { target := .fn (.func f) #[], args := c.args.map a.eval } w' := fun ty => by
          unfold resolve
          simp only [hc]
          show (Deferred.ofValue (Value.func (.func f) #[] #[]) (c.args.map a.eval)).run P w' = _
          simp [Deferred.ofValue]
        unfold execOp
        simp only [ho, Sem.run_bind, h1, Result.andThen_ok, invoke, Array.append_empty]
        exact hent _ _
      rw [hrun]
      refine ⟨rfl, ?_⟩
      obtain ⟨b1, b2, b3, b4⟩ := h'.sr.enter (T := []) (ins := []) (fun τ hτ => by rw [hm] at hτ; exact hτ) List.nodup_nil ha (by simp [insOf]) e1 e2
      have hsr : SR D w' [] (c.args.map a.eval).toList ⟨sp.args x, sp.ins x, 1, (sp.ins x).length⟩ := by rw [hins]; exact b1
      refine (hcall x hpre D w' _ [] hsr (fun r hr => by rw [hins] at hr; simp at hr)).mono ?_
      rintro e w'' ⟨v, r, ic, news, φ', rfl, hpost, hic, hicp, hnews, hres, hkeep, hsr', hlow, hfresh⟩
      obtain ⟨rfl, rfl⟩ := hdet r ic news hpost
      have hv := (hsr'.env 0 v r rfl rfl).val_inv hval
      subst hv
      exact ⟨rfl, hcls.ext.trans ⟨hkeep.size, fun b hb => hkeep.block b ⟨hb, by simp⟩⟩, hkeep.os.trans hcls.os, hkeep.tape.trans hcls.tape, hkeep.output.trans hcls.output⟩
    · exact plain hk
  · exact plain hk

theorem aQops_ok {ops : Array Oper} {k : St → Prop} {Qa : Act → Prop} (hQ : ∀ a' s', Inv D K w0 φ0 φ a' w s' → k s' → Qa a') : ∀ (l : List Oper) {a : Act} {s : St}, Inv D K w0 φ0 φ a w s → aQops P ops l s k → wpQuiet P ops (Cls w) Qa l a
  | [], a, s, h, hk => hQ a s h hk
  | o :: rest, a, s, h, hk => by
    unfold aQops at hk
    simp only [putK_eq] at hk
    unfold wpQuiet
    split at hk
    · rename_i hg
      rw [if_pos (by simp [Region.wanted, hg])]
      exact aQop_ok h hk fun v u hv hk' => aQops_ok hQ rest (h.put o.dst hv) hk'
    · rename_i j want hg
      rcases guard_ok h hk with ⟨d, b, h1, h2, ⟨k1, k2⟩, h3⟩ | ⟨h2, k3⟩
      case inr =>
        rw [if_neg (by simp [Region.wanted, hg, h2])]
        exact aQops_ok hQ rest (h.put o.dst undef_VR) k3
      by_cases e : b = want
      · subst e
        rw [if_pos (by simp [Region.wanted, hg, h2])]
        exact aQop_ok h3 (k1 (by simp)) fun v u hv hk' => aQops_ok hQ rest (h3.put o.dst hv) hk'
      · have e' : b = !want := by cases b <;> cases want <;> simp_all
        subst e'
        rw [if_neg (by simp [Region.wanted, hg, h2])]
        exact aQops_ok hQ rest (h3.put o.dst undef_VR) (k2 (by cases want <;> rfl))

end

mutual
/-- The same value, the versions of its rows named anew; or less. -/
def AV.sub (s s' : St) : AV → AV → Prop
  | x, .un => x = x
  | .ref t v o n, .ref t' v' o' n' => (t' = t ∧ o' = o ∧ n' = n) ∧ (s.rows[t]?).map (·.ver) = some v ∧ (s'.rows[t]?).map (·.ver) = some v'
  | .ptr t v o, .ptr t' v' o' => (t' = t ∧ o' = o) ∧ (s.rows[t]?).map (·.ver) = some v ∧ (s'.rows[t]?).map (·.ver) = some v'
  | .agg xs, .agg ys => subL s s' xs ys
  | .tup xs, .tup ys => subL s s' xs ys
  | x, y => x = y ∧ x.pure = true
def subL (s s' : St) : List AV → List AV → Prop
  | [], [] => True
  | x :: xs, y :: ys => x.sub s s' y ∧ subL s s' xs ys
  | _, _ => False
end

/-- A row that stays: its cells are the same, plain; or each a lesser one. -/
def rowLE (s s' : St) (r r' : Row) : Prop := (r'.ety = r.ety ∧ r'.size = r.size ∧ r'.ver < s'.ctr) ∧ ((pureL r.cells = true ∧ r'.cells = r.cells) ∨ subL s s' r.cells r'.cells)

def rowsLE (s s' : St) : List Row → List Row → Prop
  | _, [] => True
  | r :: rs, r' :: rs' => rowLE s s' r r' ∧ rowsLE s s' rs rs'
  | [], _ :: _ => False

/-- Something is forgotten. -/
def St.le (s s' : St) : Prop := subL s s' s.env s'.env ∧ rowsLE s s' s.rows s'.rows ∧ s'.low = s.low ∧ s'.low ≤ s'.rows.length

def aThen (next : St → Prop) (Q : Exit → St → Prop) : Exit → St → Prop
  | .normal, s => next s
  | .exit id, s => Q (.exit id) s
  | .ret, s => Q .ret s
  | _, _ => False

def aBlock (id : Nat) (Q : Exit → St → Prop) : Exit → St → Prop
  | .normal, s => Q .normal s
  | .exit id', s => if id' = id then Q .normal s else Q (.exit id') s
  | .ret, s => Q .ret s
  | _, _ => False

def aCond (c : AV) (x y : Prop) : Prop :=
  match c with
  | .bool b => aIf b x y
  | _ => False

def aLoop (body : (Exit → St → Prop) → St → Prop) (Q : Exit → St → Prop) (s : St) : Prop :=
  ∃ I : Nat → St → Prop, (∃ n s0, s.le s0 ∧ I n s0) ∧ ∀ n s', I n s' → body (aThen (fun s1 => ∃ n' s2, n' < n ∧ s1.le s2 ∧ I n' s2) Q) s'

def awp (P : Program) : Code → (Exit → St → Prop) → St → Prop
  | .skip, Q, s => Q .normal s
  | .label _, Q, s => Q .normal s
  | .region _ ops draw, Q, s =>
    match draw with
    | false => aOps P ops ops.toList s (Q .normal)
    | true => (P.follows .mixedOrders = true ∧ Region.lexB .any ops = true) ∧ aQops P ops ops.toList s (Q .normal)
  | .seq x y, Q, s => awp P x (aThen (awp P y Q) Q) s
  | .cond c x y, Q, s => aCond (s.ev c) (awp P x Q s) (awp P y Q s)
  | .block id b, Q, s => awp P b (aBlock id Q) s
  | .loop b, Q, s => aLoop (awp P b) Q s
  | .exit id, Q, s => Q (.exit id) s
  | .ret, Q, s => Q .ret s
  | _, _, _ => False

section
variable {P : Program} {w w0 : World} {φ φ0 : Places} {s s' : St} {K : Nat → Prop} {a : Act} {env : List Value}

theorem subL_get : ∀ {xs ys : List AV}, subL s s' xs ys → ys.length = xs.length ∧ ∀ (i : Nat) (y : AV), ys[i]? = some y → ∃ x, xs[i]? = some x ∧ x.sub s s' y
  | [], [], _ => ⟨rfl, fun i y h => by simp at h⟩
  | x :: xs, y :: ys, h => by
    obtain ⟨h1, h2⟩ := h
    obtain ⟨a1, a2⟩ := subL_get h2
    refine ⟨by simp [a1], fun i z hz => ?_⟩
    cases i with
    | zero => simp at hz; subst hz; exact ⟨x, rfl, h1⟩
    | succ i => simpa using a2 i z (by simpa using hz)
  | [], _ :: _, h => h.elim
  | _ :: _, [], h => h.elim

theorem rowsLE_get : ∀ {rs rs' : List Row}, rowsLE s s' rs rs' → rs'.length ≤ rs.length ∧ ∀ (i : Nat) (r' : Row), rs'[i]? = some r' → ∃ r, rs[i]? = some r ∧ rowLE s s' r r'
  | rs, [], _ => ⟨Nat.zero_le _, fun i y h => by simp at h⟩
  | r :: rs, r' :: rs', h => by
    obtain ⟨h1, h2⟩ := h
    obtain ⟨a1, a2⟩ := rowsLE_get h2
    refine ⟨by simp [a1], fun i z hz => ?_⟩
    cases i with
    | zero => simp at hz; subst hz; exact ⟨r, rfl, h1⟩
    | succ i => simpa using a2 i z (by simpa using hz)
  | [], _ :: _, h => h.elim

theorem VR.sub_ok {φ' : Places} (hsub : ∀ b, b < w.heap.size → some b ∉ φ → some b ∉ φ') (hφ : ∀ (t : Nat) (r' : Row), s'.rows[t]? = some r' → φ'[t]? = φ[t]?) (hrow : ∀ (t : Nat) (r r' : Row), s.rows[t]? = some r → s'.rows[t]? = some r' → r'.ety = r.ety ∧ r'.size = r.size ∧ r'.ver < s'.ctr)
    {v : Value} {x : AV} (h : VR D w φ s.rows s.ctr v x) : ∀ {y : AV}, x.sub s s' y → VR D w φ' s'.rows s'.ctr v y := by
  have eqc : ∀ {v : Value} {x y : AV}, VR D w φ s.rows s.ctr v x → x = y ∧ x.pure = true → VR D w φ' s'.rows s'.ctr v y := fun h ⟨e, hp⟩ => by subst e; exact h.repure hp hsub
  induction h with
  | un v => intro y hs; cases y <;> first | exact .un v | exact eqc (.un v) hs
  | int k n => intro y hs; cases y <;> first | exact .un _ | exact eqc (.int k n) hs
  | bool b => intro y hs; cases y <;> first | exact .un _ | exact eqc (.bool b) hs
  | str b => intro y hs; cases y <;> first | exact .un _ | exact eqc (.str b) hs
  | nil => intro y hs; cases y <;> first | exact .un _ | exact eqc .nil hs
  | sl0 A cap c hm => intro y hs; cases y <;> first | exact .un _ | exact eqc (.sl0 A cap c hm) hs
  | sl ad c n cap cells vs hs0 hF hD hlt hn hm hl hc h1 hv ih => intro y hs; cases y <;> first | exact .un _ | exact eqc (.sl ad c n cap cells vs hs0 hF hD hlt hn hm hl hc h1 hv) hs
  | rd ad cells vs hs0 hF hlt hl hc h1 hv ih => intro y hs; cases y <;> first | exact .un _ | (exfalso; have := hs.2; simp [AV.pure] at this)
  | agg cs cells hl h1 hv ih =>
    intro y hs
    cases y with
    | un => exact .un _
    | agg ys =>
      obtain ⟨a1, a2⟩ := subL_get (show subL s s' cells ys from hs)
      refine .agg cs ys (by rw [a1]; exact hl) h1 fun j v u hv' hu => ?_
      obtain ⟨x, b1, b2⟩ := a2 j u hu
      exact ih j v x hv' b1 b2
    | _ => cases hs.1
  | tup vs us hl hv ih =>
    intro y hs
    cases y with
    | un => exact .un _
    | tup ys =>
      obtain ⟨a1, a2⟩ := subL_get (show subL s s' us ys from hs)
      refine .tup vs ys (by rw [a1]; exact hl) fun j v u hv' hu => ?_
      obtain ⟨x, b1, b2⟩ := a2 j u hu
      exact ih j v x hv' b1 b2
    | _ => cases hs.1
  | ref t ver off n v hlt h1 h =>
    intro y hs
    cases y with
    | un => exact .un _
    | ref t' ver' off' n' =>
      obtain ⟨⟨rfl, rfl, rfl⟩, h2, h3⟩ := (show (t' = t ∧ off' = off ∧ n' = n) ∧ (s.rows[t]?).map (·.ver) = some ver ∧ (s'.rows[t]?).map (·.ver) = some ver' from hs)
      rw [Option.map_eq_some_iff] at h2 h3
      obtain ⟨r, hr, rfl⟩ := h2
      obtain ⟨r', hr', rfl⟩ := h3
      obtain ⟨e1, e2, e3⟩ := hrow _ r r' hr hr'
      refine .ref _ _ _ _ _ e3 h1 fun r2 hr2 _ => ?_
      rw [hr'] at hr2; cases hr2
      rcases h r hr rfl with ⟨b1, b2, b3, b4⟩ | ⟨g, A, cap, cur, b1, b2, b3, b4, b5, b6, b7, b8⟩
      · exact .inl ⟨by rw [hφ _ r' hr']; exact b1, b2, b3, b4⟩
      · exact .inr ⟨g, A, cap, cur, by rw [hφ _ r' hr']; exact b1, b2, b3, b4, by rw [e1]; exact b5, b6, by rw [e2]; exact b7, by rw [e2]; exact b8⟩
    | _ => cases hs.1
  | ptr t ver off v hlt h1 h =>
    intro y hs
    cases y with
    | un => exact .un _
    | ptr t' ver' off' =>
      obtain ⟨⟨rfl, rfl⟩, h2, h3⟩ := (show (t' = t ∧ off' = off) ∧ (s.rows[t]?).map (·.ver) = some ver ∧ (s'.rows[t]?).map (·.ver) = some ver' from hs)
      rw [Option.map_eq_some_iff] at h2 h3
      obtain ⟨r, hr, rfl⟩ := h2
      obtain ⟨r', hr', rfl⟩ := h3
      obtain ⟨e1, e2, e3⟩ := hrow _ r r' hr hr'
      obtain ⟨g, b1, b2⟩ := h r hr rfl
      exact .ptr _ _ _ _ e3 h1 fun r2 hr2 _ => ⟨g, by rw [hφ _ r' hr']; exact b1, b2⟩
    | _ => cases hs.1

theorem SR.le (h : SR D w φ env s) (hle : s.le s') : SR D w (φ.take s'.rows.length) env s' := by
  obtain ⟨he, hrs, hlow, hlo⟩ := hle
  obtain ⟨r1, r2⟩ := rowsLE_get hrs
  have hφ : ∀ (t : Nat) (r' : Row), s'.rows[t]? = some r' → (φ.take s'.rows.length)[t]? = φ[t]? := fun t r' hr' => by rw [List.getElem?_take, if_pos (List.getElem?_eq_some_iff.1 hr').1]
  have hφ' : ∀ (t : Nat) (ob : Option Nat), (φ.take s'.rows.length)[t]? = some ob → φ[t]? = some ob := fun t ob h' => by
    rw [List.getElem?_take] at h'; split at h'
    · exact h'
    · cases h'
  have hrow : ∀ (t : Nat) (r r' : Row), s.rows[t]? = some r → s'.rows[t]? = some r' → r'.ety = r.ety ∧ r'.size = r.size ∧ r'.ver < s'.ctr := fun t r r' hr hr' => by
    obtain ⟨r0, a1, a2, _⟩ := r2 t r' hr'
    rw [hr] at a1; cases a1
    exact a2
  have hsub : ∀ b, b < w.heap.size → some b ∉ φ → some b ∉ φ.take s'.rows.length := fun b _ hF hm => hF (List.mem_of_mem_take hm)
  obtain ⟨e1, e2⟩ := subL_get he
  refine ⟨fun g hg => h.dis g (List.mem_of_mem_take hg), h.dlt, by rw [List.length_take, h.len, Nat.min_eq_left r1], hlo, fun t t' g hg hg' => h.inj t t' g (hφ' t _ hg) (hφ' t' _ hg'), fun g hg => h.lt g (List.mem_of_mem_take hg), fun r hr => ?_, fun t r' ob hr' hob => ?_, fun t r' hr' hz => ?_, by rw [e1]; exact h.elen, fun i v u hv hu => ?_⟩
  · obtain ⟨t, ht⟩ := List.getElem?_of_mem hr
    obtain ⟨r0, a1, a2, _⟩ := r2 t r ht
    exact a2.2.2
  · obtain ⟨r0, a1, ⟨b1, b2, b3⟩, a3⟩ := r2 t r' hr'
    have hold := h.row t r0 ob a1 (hφ' t ob hob)
    cases ob with
    | none =>
      have h0 : r0.cells = [] := hold
      show r'.cells = []
      rcases a3 with ⟨_, e⟩ | e
      · rw [e, h0]
      · rw [h0] at e
        have := (subL_get e).1
        exact List.eq_nil_of_length_eq_zero this
    | some g =>
      obtain ⟨cur, d1, d2, d3⟩ := hold
      rcases a3 with ⟨hp, e⟩ | e
      · refine ⟨cur, by rw [b1]; exact d1, by rw [e]; exact d2, fun j u hu => ?_⟩
        rw [e] at hu
        obtain ⟨v, f1, f2, f3⟩ := d3 j u hu
        exact ⟨v, f1, f2, f3.repure (pureL_get hp hu) hsub⟩
      · obtain ⟨l1, l2⟩ := subL_get e
        refine ⟨cur, by rw [b1]; exact d1, by rw [l1]; exact d2, fun j u hu => ?_⟩
        obtain ⟨x, g1, g2⟩ := l2 j u hu
        obtain ⟨v, f1, f2, f3⟩ := d3 j x g1
        exact ⟨v, f1, f2, VR.sub_ok hsub hφ hrow f3 g2⟩
  · obtain ⟨r0, a1, ⟨b1, b2, b3⟩, _⟩ := r2 t r' hr'
    rw [hφ t r' hr']
    exact h.sz0 t r0 a1 (by omega)
  · obtain ⟨x, a1, a2⟩ := e2 i u hu
    exact VR.sub_ok hsub hφ hrow (h.env i v x hv a1) a2

theorem Inv.le (h : Inv D K w0 φ0 φ a w s) (hle : s.le s') : Inv D K w0 φ0 (φ.take s'.rows.length) a w s' := by
  have hle' := hle
  obtain ⟨he, _, hlow, hlo⟩ := hle
  refine ⟨h.sr.le hle', h.kp, fun g hg => h.ap g (List.mem_of_mem_take hg), ?_, hlow.trans h.lc, h.kl, h.df⟩
  rw [hlow]
  refine h.lw.trans (Lows.new (fun i hi => ?_) (fun _ _ => rfl))
  rw [List.getElem?_take, if_pos (by omega)]

theorem exists_min {p : Nat → Prop} (h : ∃ n, p n) : ∃ n, p n ∧ ∀ m, p m → n ≤ m := by
  obtain ⟨n, hn⟩ := h
  induction n using Nat.strongRecOn with
  | _ n ih =>
    by_cases hm : ∃ m, m < n ∧ p m
    · obtain ⟨m, h1, h2⟩ := hm
      exact ih m h1 h2
    · refine ⟨n, hn, fun m h' => ?_⟩
      rcases Nat.lt_or_ge m n with h1 | h1
      · exact absurd ⟨m, h1, h'⟩ hm
      · exact h1

theorem awp_ok : ∀ (c : Code) {Q : Exit → St → Prop} {a : Act} {w : World} {s : St} {φ : Places}, Inv D K w0 φ0 φ a w s → awp P c Q s → c.wp P (fun e a' w' => Post D K w0 φ0 (Q e) a' w') a w
  | .skip, Q, a, w, s, φ, h, hk => wp_skip ⟨φ, s, h, hk⟩
  | .label l, Q, a, w, s, φ, h, hk => wp_label ⟨φ, s, h, hk⟩
  | .exit id, Q, a, w, s, φ, h, hk => wp_exit ⟨φ, s, h, hk⟩
  | .ret, Q, a, w, s, φ, h, hk => wp_ret ⟨φ, s, h, hk⟩
  | .region id ops draw, Q, a, w, s, φ, h, hk => by
    cases draw with
    | false => exact wp_region_list (aOps_wp (fun a w hp => hp) ops.toList h hk)
    | true =>
      obtain ⟨⟨hm, hB⟩, hq⟩ := hk
      have hc0 : Cls w { w with drawn := w.drawn + 1 } := ⟨⟨Nat.le_refl _, fun _ _ => rfl⟩, rfl, rfl, rfl⟩
      refine wp_region_quiet (C := Cls w) hm hB hc0 ?_
      exact aQops_ok (P := P) (ops := ops) (fun a' s' h' hk' w' hc => ⟨φ, s', h'.cls hc, hk'⟩) ops.toList h hq
  | .seq x y, Q, a, w, s, φ, h, hk => by
    refine wp_seq (wp_mono (awp_ok x h hk) ?_)
    rintro e a' w' ⟨φ', s', h', hk'⟩
    cases e with
    | normal => exact awp_ok y h' hk'
    | exit id => exact ⟨φ', s', h', hk'⟩
    | ret => exact ⟨φ', s', h', hk'⟩
    | _ => exact hk'.elim
  | .cond c x y, Q, a, w, s, φ, h, hk => by
    simp only [awp] at hk
    have hc := h.sr.ev c
    generalize s.ev c = cu at hk hc
    unfold aCond at hk
    split at hk
    · rename_i b
      have hb := hc.bool_inv
      refine wp_cond_split hb (fun e => ?_) (fun e => ?_)
      · exact awp_ok x h (hk.1 e)
      · exact awp_ok y h (hk.2 e)
    · exact hk.elim
  | .block id b, Q, a, w, s, φ, h, hk => by
    refine wp_block (wp_mono (awp_ok b h hk) ?_)
    rintro e a' w' ⟨φ', s', h', hk'⟩
    cases e with
    | normal => exact ⟨φ', s', h', hk'⟩
    | exit id' =>
      simp only [aBlock] at hk'
      simp only [Exit.inBlock]
      split
      · rename_i e; rw [if_pos e] at hk'; exact ⟨φ', s', h', hk'⟩
      · rename_i e; rw [if_neg e] at hk'; exact ⟨φ', s', h', hk'⟩
    | ret => exact ⟨φ', s', h', hk'⟩
    | _ => exact hk'.elim
  | .loop b, Q, a, w, s, φ, h, hk => by
    obtain ⟨I, ⟨n, s0, hle, hI⟩, hround⟩ := hk
    let J : Nat → Act → World → Prop := fun n a w => ∃ φ s, Inv D K w0 φ0 φ a w s ∧ I n s
    have hmin : ∀ a w, ∃ n, (∃ m, J m a w) → J n a w ∧ ∀ m, J m a w → n ≤ m := fun a w => by
      by_cases hx : ∃ m, J m a w
      · obtain ⟨n, h1, h2⟩ := exists_min hx
        exact ⟨n, fun _ => ⟨h1, h2⟩⟩
      · exact ⟨0, fun h' => absurd h' hx⟩
    let μ : Act → World → Nat := fun a w => Classical.choose (hmin a w)
    have hμ := fun a w => Classical.choose_spec (hmin a w)
    refine wp_loop (fun a w => ∃ m, J m a w) μ ⟨n, _, s0, h.le hle, hI⟩ fun a1 w1 hJ => ?_
    obtain ⟨⟨φ1, s1, i1, i2⟩, hleast⟩ := hμ a1 w1 hJ
    refine wp_mono (awp_ok b i1 (hround _ s1 i2)) ?_
    rintro e a' w' ⟨φ', s', h', hk'⟩
    cases e with
    | normal =>
      obtain ⟨n', s2, hlt, hle', hI'⟩ := hk'
      have hJ' : J n' a' w' := ⟨_, s2, h'.le hle', hI'⟩
      exact ⟨⟨n', hJ'⟩, Nat.lt_of_le_of_lt ((hμ a' w' ⟨n', hJ'⟩).2 n' hJ') hlt⟩
    | exit id => exact ⟨φ', s', h', hk'⟩
    | ret => exact ⟨φ', s', h', hk'⟩
    | _ => exact hk'.elim
  | .rangeFunc f p as b, Q, a, w, s, φ, h, hk => hk.elim
  | .scope b, Q, a, w, s, φ, h, hk => hk.elim
  | .goto l, Q, a, w, s, φ, h, hk => hk.elim
  | .refuse y, Q, a, w, s, φ, h, hk => hk.elim

end
end Go.Am
