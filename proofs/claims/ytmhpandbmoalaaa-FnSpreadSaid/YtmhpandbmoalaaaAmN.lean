/- The abstract machine, part N: what a body hands back; a function does what its contract says. -/
import Derived.Test.YtmhpandbmoalaaaAmM
namespace Go.Am
open Go.RowKit
variable {D : Nat → Prop}

mutual
/-- What is handed back, its rows numbered anew. -/
def AV.ren (s : St) (T : List Nat) : AV → Option AV
  | .ref τ ver off n =>
    match s.rows[τ]? with
    | some r => if r.ver = ver ∧ τ ∈ T then some (.ref (T.idxOf τ) 0 off n) else none
    | none => none
  | .ptr τ ver off =>
    match s.rows[τ]? with
    | some r => if r.ver = ver ∧ τ ∈ T then some (.ptr (T.idxOf τ) 0 off) else none
    | none => none
  | .rd _ => none
  | .tup us => (renL s T us).map .tup
  | .agg cs => (renL s T cs).map .agg
  | .sl c n cs => if c = 1 ∧ protL cs = true then some (.sl c n cs) else none
  | .un => some .un
  | .int k n => some (.int k n)
  | .bool b => some (.bool b)
  | .str b => some (.str b)
  | .nil => some .nil
def renL (s : St) (T : List Nat) : List AV → Option (List AV)
  | [] => some []
  | u :: us => (u.ren s T).bind fun u' => (renL s T us).map (u' :: ·)
end

mutual
def AV.tops : AV → List Nat
  | .ref τ _ _ _ => [τ]
  | .ptr τ _ _ => [τ]
  | .tup us => topsL us
  | .agg cs => topsL cs
  | .rd _ => []
  | .sl _ _ _ => []
  | .un => []
  | .int _ _ => []
  | .bool _ => []
  | .str _ => []
  | .nil => []
def topsL : List AV → List Nat
  | [] => []
  | u :: us => u.tops ++ topsL us
end

def aResL (P : Program) (s : St) : List ResultVar → (List AV → Prop) → Prop
  | [], k => k []
  | .tmp t :: rs, k => aResL P s rs fun us => k (s.env.getD t .un :: us)
  | .cell p t :: rs, k => aLoad P s t (s.env.getD p .un) fun u => aResL P s rs fun us => k (u :: us)

def oneOf : List AV → AV
  | [u] => u
  | us => .tup us

/-- What is owed at the end, of the one value that is handed back. -/
def RetB (s : St) (ins : List Row) (post : AV → List (List AV) → List Row → Prop) (u : AV) : Prop :=
  ∃ T rows r ic news, T = List.range s.low ++ u.tops ∧ T.Nodup ∧ insOf s T T = some rows ∧ u.ren s T = some r ∧ r.resOk ins.length = true ∧ rows = upd ins ic ++ news ∧ ic.length = ins.length ∧
    (∀ c ∈ ic, protL c = true) ∧ (∀ n ∈ news, protL n.cells = true) ∧ post r ic news

def aRet (P : Program) (fn : Func) (ins : List Row) (post : AV → List (List AV) → List Row → Prop) (s : St) : Prop :=
  aResL P s fn.results.toList fun us => forceV (oneOf us) fun u => RetB s ins post u

def aRetQ (P : Program) (fn : Func) (ins : List Row) (post : AV → List (List AV) → List Row → Prop) : Exit → St → Prop
  | .normal, s => aRet P fn ins post s
  | .ret, s => aRet P fn ins post s
  | _, _ => False

theorem renL_get {s : St} {T : List Nat} : ∀ {us us' : List AV}, renL s T us = some us' → us'.length = us.length ∧ ∀ (j : Nat) (u' : AV), us'[j]? = some u' → ∃ u, us[j]? = some u ∧ u.ren s T = some u'
  | [], us', h => by simp only [renL, Option.some.injEq] at h; subst h; exact ⟨rfl, fun j u' h => by simp at h⟩
  | u :: us, us', h => by
    simp only [renL, Option.bind_eq_some_iff, Option.map_eq_some_iff] at h
    obtain ⟨u1, h1, us1, h2, rfl⟩ := h
    obtain ⟨a1, a2⟩ := renL_get h2
    refine ⟨by simp [a1], fun j u' hu => ?_⟩
    cases j with
    | zero => simp at hu; subst hu; exact ⟨u, rfl, h1⟩
    | succ j =>
      obtain ⟨x, b1, b2⟩ := a2 j u' (by simpa using hu)
      exact ⟨x, by simpa using b1, b2⟩

section
variable {P : Program} {w w0 : World} {φ φ0 : Places} {s : St} {K : Nat → Prop} {a : Act} {env : List Value}

theorem SR.ren {T : List Nat} {ins : List Row} {φc : Places} (hdis : ∀ b, some b ∈ φc → ¬ D b) (hφ : ∀ (i τ : Nat), T[i]? = some τ → φc[i]? = φ[τ]?)
    (hin : ∀ (i τ : Nat), T[i]? = some τ → ∃ (r : Row) (c : List AV), s.rows[τ]? = some r ∧ ins[i]? = some { r with ver := 0, cells := c }) {v : Value} {u u' : AV} (hv : VR D w φ s.rows s.ctr v u) (hr : u.ren s T = some u') : VR D w φc ins 1 v u' := by
  have hmt : ∀ τ, τ ∈ T → T[T.idxOf τ]? = some τ := fun τ hτ => by
    have := List.idxOf_lt_length_of_mem hτ
    rw [List.getElem?_eq_getElem this, List.getElem_idxOf]
  induction hv generalizing u' with
  | un v => simp only [AV.ren, Option.some.injEq] at hr; subst hr; exact .un v
  | int k n => simp only [AV.ren, Option.some.injEq] at hr; subst hr; exact .int k n
  | bool b => simp only [AV.ren, Option.some.injEq] at hr; subst hr; exact .bool b
  | str b => simp only [AV.ren, Option.some.injEq] at hr; subst hr; exact .str b
  | nil => simp only [AV.ren, Option.some.injEq] at hr; subst hr; exact .nil
  | sl0 A cap c hm =>
    simp only [AV.ren] at hr
    split at hr
    · simp only [Option.some.injEq] at hr; subst hr; exact .sl0 A cap c hm
    · cases hr
  | sl ad c n cap cells vs hs hF hD hlt hn hm hl hc' h1 hv ih =>
    simp only [AV.ren] at hr
    split at hr
    · rename_i hp
      simp only [Option.some.injEq] at hr
      subst hr
      exact (VR.sl (D := D) (w := w) (φ := φ) (rows := s.rows) (ctr := s.ctr) ad c n cap cells vs hs hF hD hlt hn hm hl hc' h1 hv).reprot (by simp [AV.prot, hp.1, hp.2]) hdis
    · cases hr
  | rd ad cells vs hs hF hlt hl hc' h1 hv ih => simp [AV.ren] at hr
  | agg cs cells hl h1 hv ih =>
    simp only [AV.ren, Option.map_eq_some_iff] at hr
    obtain ⟨cs', hcs, rfl⟩ := hr
    obtain ⟨a1, a2⟩ := renL_get hcs
    refine .agg cs cs' (by rw [a1]; exact hl) h1 fun j v u hv' hu => ?_
    obtain ⟨x, b1, b2⟩ := a2 j u hu
    exact ih j v x hv' b1 b2
  | tup vs us hl hv ih =>
    simp only [AV.ren, Option.map_eq_some_iff] at hr
    obtain ⟨cs', hcs, rfl⟩ := hr
    obtain ⟨a1, a2⟩ := renL_get hcs
    refine .tup vs cs' (by rw [a1]; exact hl) fun j v u hv' hu => ?_
    obtain ⟨x, b1, b2⟩ := a2 j u hu
    exact ih j v x hv' b1 b2
  | ref t ver off n v hlt h1 hx =>
    simp only [AV.ren] at hr
    split at hr
    case h_2 => cases hr
    rename_i r hrow
    split at hr
    case isFalse => cases hr
    rename_i hc
    simp only [Option.some.injEq] at hr
    subst hr
    have hi := hmt t hc.2
    obtain ⟨r2, c2, b1, b2⟩ := hin _ t hi
    rw [hrow] at b1; cases b1
    refine .ref _ _ _ _ _ Nat.zero_lt_one h1 fun r' hr' _ => ?_
    rw [b2] at hr'; cases hr'
    rcases hx r hrow hc.1 with ⟨e1, e2, e3, e4⟩ | ⟨g, A, cap, cur, e1, e2, e3, e4, e5, e6, e7, e8⟩
    · exact .inl ⟨by rw [hφ _ _ hi]; exact e1, e2, e3, e4⟩
    · exact .inr ⟨g, A, cap, cur, by rw [hφ _ _ hi]; exact e1, e2, e3, e4, e5, e6, e7, e8⟩
  | ptr t ver off v hlt h1 hx =>
    simp only [AV.ren] at hr
    split at hr
    case h_2 => cases hr
    rename_i r hrow
    split at hr
    case isFalse => cases hr
    rename_i hc
    simp only [Option.some.injEq] at hr
    subst hr
    have hi := hmt t hc.2
    obtain ⟨g, e1, e2⟩ := hx r hrow hc.1
    exact .ptr _ _ _ _ Nat.zero_lt_one h1 fun r' hr' _ => ⟨g, by rw [hφ _ _ hi]; exact e1, e2⟩

def resOne (tmps : Array Value) : ResultVar → Sem Value
  | .tmp t => pure (tmps.getD t undef)
  | .cell p t => do loadVar t (← asAddr (tmps.getD p undef))

theorem results_eq (fn : Func) (tmps : Array Value) : results fn tmps = (do let vs ← fn.results.mapM (resOne tmps); pure (if h : vs.size = 1 then vs[0] else .tuple vs)) := by
  have e : resOne tmps = fun (r : ResultVar) => match r with
    | .tmp t => (pure (tmps.getD t undef) : Sem Value)
    | .cell a t => (do loadVar t (← asAddr (tmps.getD a undef)) : Sem Value) := by funext r; cases r <;> rfl
  rw [e]
  rfl

theorem aResL_ok (h : SR D w φ a.tmps.toList s) : ∀ (rs : List ResultVar) {k : List AV → Prop}, aResL P s rs k → ∃ (vs : List Value) (us : List AV), (rs.mapM (resOne a.tmps)).run P w = .ok vs w ∧ vs.length = us.length ∧
    us.length = rs.length ∧ (∀ (j : Nat) (v : Value) (u : AV), vs[j]? = some v → us[j]? = some u → VR D w φ s.rows s.ctr v u) ∧ k us
  | [], k, hk => ⟨[], [], by simp, rfl, rfl, fun j v u h => by simp at h, hk⟩
  | .tmp t :: rs, k, hk => by
    obtain ⟨vs, us, h1, h2, h3, h4, h5⟩ := aResL_ok h rs (k := fun us => k (s.env.getD t .un :: us)) hk
    refine ⟨a.tmps.getD t undef :: vs, s.env.getD t .un :: us, by simp [List.mapM_cons, resOne, h1], by simp [h2], by simp [h3], fun j v u hv hu => ?_, h5⟩
    cases j with
    | zero => simp only [List.getElem?_cons_zero, Option.some.injEq] at hv hu; subst hv; subst hu; exact h.evTmp t
    | succ j => exact h4 j v u (by simpa using hv) (by simpa using hu)
  | .cell p t :: rs, k, hk => by
    obtain ⟨v, u, l1, l2, l3⟩ := aLoad_ok h (h.evTmp p) (k := fun u => aResL P s rs fun us => k (u :: us)) hk
    obtain ⟨vs, us, h1, h2, h3, h4, h5⟩ := aResL_ok h rs (k := fun us => k (u :: us)) l3
    have hload := l1 w (Ext.refl w)
    have hrun : (resOne a.tmps (.cell p t)).run P w = .ok v w := by
      show Sem.run P (asAddr (a.tmps.getD p undef) >>= fun x => loadVar t x) w = _
      unfold Instr.loadAt at hload
      generalize a.tmps.getD p undef = pv at hload ⊢
      cases pv with
      | pointer o =>
        cases o with
        | some ad => simpa [Instr.sureAddr, asAddr] using hload
        | none => simp [Instr.sureAddr] at hload
      | _ => simp [Instr.sureAddr] at hload
    refine ⟨v :: vs, u :: us, ?_, by simp [h2], by simp [h3], fun j v' u' hv hu => ?_, h5⟩
    · simp [List.mapM_cons, hrun, h1]
    · cases j with
      | zero => simp only [List.getElem?_cons_zero, Option.some.injEq] at hv hu; subst hv; subst hu; exact l2
      | succ j => exact h4 j v' u' (by simpa using hv) (by simpa using hu)

theorem results_ok (h : SR D w φ a.tmps.toList s) {fn : Func} {k : List AV → Prop} (hk : aResL P s fn.results.toList k) : ∃ v us, (results fn a.tmps).run P w = .ok v w ∧ VR D w φ s.rows s.ctr v (oneOf us) ∧ k us := by
  obtain ⟨vs, us, h1, h2, h3, h4, h5⟩ := aResL_ok (P := P) h fn.results.toList hk
  have hrun : (results fn a.tmps).run P w = .ok (if h : vs.toArray.size = 1 then vs.toArray[0] else .tuple vs.toArray) w := by
    rw [results_eq, Sem.run_bind, Array.mapM_eq_mapM_toList]
    simp only [Sem.run_map, h1, Result.andThen_ok]
    rfl
  refine ⟨_, us, hrun, ?_, h5⟩
  by_cases h0 : vs.toArray.size = 1
  · rw [dif_pos h0]
    match vs, us, h2, h4, h0 with
    | [v], [u], _, h4, _ => exact h4 0 v u rfl rfl
    | [], _, _, _, h0 => simp at h0
    | _ :: _ :: _, _, _, _, h0 => simp at h0
    | [v], [], h2, _, _ => simp at h2
    | [v], _ :: _ :: _, h2, _, _ => simp at h2
  · rw [dif_neg h0]
    have : oneOf us = .tup us := by
      match us, h2 with
      | [], _ => rfl
      | [u], h2 => simp at h2; simp [h2] at h0
      | _ :: _ :: _, _ => rfl
    rw [this]
    exact .tup _ _ (by simp [h2]) (fun j v u hv hu => h4 j v u (by simpa using hv) hu)

end

/-- A function does what its contract says, if its body does so in the abstract. -/
theorem sound_of {P : Program} {f : FuncId} {fn : Func} {c : Code} {sp : CSpec} (hf : P.funcs[f]? = some fn) (hb : fn.body = some c) (hent : Enters P f)
    (h' : ∀ x, sp.pre x → forceL (sp.args x ++ List.replicate (fn.ntmps - (sp.args x).length) .un) fun env => forceR (sp.ins x) fun rows => forceN (sp.ins x).length fun low => awp P c (aRetQ P fn (sp.ins x) (sp.post x)) ⟨env, rows, 1, low⟩) : Sound P f sp := by
  have h : ∀ x, sp.pre x → awp P c (aRetQ P fn (sp.ins x) (sp.post x)) ⟨sp.args x ++ List.replicate (fn.ntmps - (sp.args x).length) .un, sp.ins x, 1, (sp.ins x).length⟩ := fun x hx => by
    have := h' x hx
    rwa [forceL_eq, forceR_eq, forceN_eq] at this
  refine ⟨hent, fun x hpre D w vs φ hsr hver => ?_⟩
  have hl : vs.size = (sp.args x).length := by simpa using hsr.elen
  let K : Nat → Prop := fun b => b < w.heap.size ∧ some b ∉ φ
  have hinv : Inv D K w φ φ { tmps := vs ++ Array.replicate (fn.ntmps - vs.size) undef, defers := [] } w ⟨sp.args x ++ List.replicate (fn.ntmps - (sp.args x).length) .un, sp.ins x, 1, (sp.ins x).length⟩ := by
    refine ⟨⟨hsr.dis, hsr.dlt, hsr.len, hsr.lo, hsr.inj, hsr.lt, hsr.ver, hsr.row, hsr.sz0, by simp [hl], fun i v u hv hu => ?_⟩, Keeps.refl _ _, fun g hg hK => hK.2 hg, Lows.refl _ _ _, hsr.len.symm, fun b hb => hb.1, rfl⟩
    simp only [Array.toList_append, Array.toList_replicate] at hv
    by_cases hi : i < vs.size
    · rw [List.getElem?_append_left (by simpa using hi)] at hv
      rw [List.getElem?_append_left (by omega)] at hu
      exact hsr.env i v u hv hu
    · rw [List.getElem?_append_right (by omega), List.getElem?_replicate] at hu
      split at hu
      · cases hu; exact .un v
      · cases hu
  refine calls_of_wp hf hb (wp_mono (awp_ok c hinv (h x hpre)) ?_)
  have hfv : ∀ s, aRet P fn (sp.ins x) (sp.post x) s → aResL P s fn.results.toList fun us => RetB s (sp.ins x) (sp.post x) (oneOf us) := fun s hs => by
    unfold aRet at hs
    simpa only [forceV_eq] using hs
  have key : ∀ (a : Act) (w' : World), Post D K w φ (aRet P fn (sp.ins x) (sp.post x)) a w' → a.defers = [] ∧ ∃ v, (results fn a.tmps).run P w' = .ok v w' ∧ Left1 D w φ (sp.ins x) (sp.post x) (.returned v) w' := by
    rintro a w' ⟨φf, sf, hinv', hret⟩
    obtain ⟨v, us, hrun, hvr, T, rows, r, ic, news, hT, hTn, hrows, hren, hres, hsplit, hic, hicp, hnp, hpost⟩ := results_ok (P := P) hinv'.sr (hfv sf hret)
    refine ⟨hinv'.df, v, hrun, v, r, ic, news, (T.map fun τ => φf.getD τ none).drop φ.length, rfl, hpost, hic, hicp, ?_, hres, hinv'.kp, ?_, ?_, ?_⟩
    all_goals
      obtain ⟨e1, e2, e3, e4⟩ := hinv'.sr.enter (args := []) (us := []) (vs := #[]) (bs := []) (T := T) (ins := rows) (fun τ hτ => by simp [mutTags] at hτ) hTn rfl hrows rfl (fun j v u hv => by simp at hv)
      have hlow : sf.low = φ.length := hinv'.lc
      have hφl : φ.length = (sp.ins x).length := hsr.len
      have hφc : ∀ (i τ : Nat), T[i]? = some τ → (T.map fun τ => φf.getD τ none)[i]? = φf[τ]? := by
        intro i τ hτ
        obtain ⟨r, c, hr, _⟩ := e4 i τ hτ
        have : τ < φf.length := by rw [hinv'.sr.len]; exact (List.getElem?_eq_some_iff.1 hr).1
        simp [List.getElem?_map, hτ, List.getD, List.getElem?_eq_getElem this]
      have hTl : ∀ i, i < φ.length → T[i]? = some i := fun i hi => by
        rw [hT, List.getElem?_append_left (by simp [hlow, hi])]
        simp [hlow, hi]
      have hTlen : φ.length ≤ T.length := by rw [hT]; simp [hlow]
      have hpre' : φ ++ (T.map fun τ => φf.getD τ none).drop φ.length = T.map fun τ => φf.getD τ none := by
        have : (T.map fun τ => φf.getD τ none).take φ.length = φ := by
          apply List.ext_getElem?
          intro i
          rw [List.getElem?_take]
          split
          · rename_i hi
            rw [hφc i i (hTl i hi), hinv'.lw.pl i (by rw [hlow]; exact hi)]
          · rename_i hi
            rw [List.getElem?_eq_none (by omega)]
        calc φ ++ (T.map fun τ => φf.getD τ none).drop φ.length = (T.map fun τ => φf.getD τ none).take φ.length ++ (T.map fun τ => φf.getD τ none).drop φ.length := by rw [this]
          _ = _ := List.take_append_drop _ _
    · intro n hn
      refine ⟨e2 n ?_, hnp n hn⟩
      rw [hsplit]; exact List.mem_append.2 (.inr hn)
    · rw [hpre', ← hsplit]
      refine ⟨e1.dis, e1.dlt, e1.len, Nat.zero_le _, e1.inj, e1.lt, e1.ver, e1.row, e1.sz0, rfl, fun i v' u hv hu => ?_⟩
      cases i with
      | zero =>
        simp at hv hu
        subst hv; subst hu
        exact SR.ren e1.dis hφc e4 hvr hren
      | succ i => simp at hv
    · rw [← hφl, ← hlow]
      exact ⟨fun i _ => rfl, hinv'.lw.bl⟩
    · intro g hg
      obtain ⟨i, hi⟩ := List.getElem?_of_mem hg
      rw [List.getElem?_drop] at hi
      have hmem : some g ∈ (T.map fun τ => φf.getD τ none) := List.mem_of_getElem? hi
      have hnK : ¬ K g := by
        obtain ⟨j, hj⟩ := List.getElem?_of_mem hmem
        have hj' := hj
        simp only [List.getElem?_map, Option.map_eq_some_iff] at hj
        obtain ⟨τ, hτ, _⟩ := hj
        rw [hφc j τ hτ] at hj'
        exact hinv'.ap g (List.mem_of_getElem? hj')
      rcases Nat.lt_or_ge g w.heap.size with hlt | hge
      · exfalso
        refine hnK ⟨hlt, fun hin => ?_⟩
        obtain ⟨j, hj⟩ := List.getElem?_of_mem hin
        have hjl : j < φ.length := (List.getElem?_eq_some_iff.1 hj).1
        have hj2 : (T.map fun τ => φf.getD τ none)[j]? = some (some g) := by
          rw [← hpre', List.getElem?_append_left hjl]; exact hj
        have := e1.inj j (φ.length + i) g hj2 hi
        omega
      · exact hge
  intro e a w' hp
  cases e with
  | normal => exact key a w' hp
  | ret => exact key a w' hp
  | exit id => obtain ⟨_, _, _, hf⟩ := hp; exact hf.elim
  | goto l => obtain ⟨_, _, _, hf⟩ := hp; exact hf.elim
  | panic ch => obtain ⟨_, _, _, hf⟩ := hp; exact hf.elim
  | outgrown => obtain ⟨_, _, _, hf⟩ := hp; exact hf.elim

end Go.Am
