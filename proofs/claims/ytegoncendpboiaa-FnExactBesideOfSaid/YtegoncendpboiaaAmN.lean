/- The abstract machine, part N: what a body hands back; a function does what its contract says. -/
import Derived.Test.YtegoncendpboiaaAmM
namespace Go.Am
open Go.RowKit
variable {D : Nat → Prop}

def aResL (P : Program) (s : St) : List ResultVar → (List AV → Prop) → Prop
  | [], k => k []
  | .tmp t :: rs, k => aResL P s rs fun us => k (s.env.getD t .un :: us)
  | .cell p t :: rs, k => aLoad P s t (s.env.getD p .un) fun u => aResL P s rs fun us => k (u :: us)

def oneOf : List AV → AV
  | [u] => u
  | us => .tup us

/-- What is owed at the end, of the one value that is handed back. L: the rows that are handed back. -/
def RetB1 (s : St) (ins : List Row) (post : AV → List (List AV) → List Row → Prop) (u : AV) : Prop :=
  ∃ L rows r ic news, (List.range s.low ++ L).Nodup ∧ insOf s (List.range s.low ++ L) (List.range s.low ++ L) = some rows ∧ u.ren s (List.range s.low ++ L) = some r ∧ rows = upd ins ic ++ news ∧ ic.length = ins.length ∧ post r ic news
def RetB (s : St) (ins : List Row) (post : AV → List (List AV) → List Row → Prop) (u : AV) : Prop := ∃ s1, St.closes s s1 ∧ RetB1 s1 ins post u
theorem RetB1.ret {s : St} {ins : List Row} {post : AV → List (List AV) → List Row → Prop} {u : AV} (h : RetB1 s ins post u) : RetB s ins post u := ⟨s, .refl s, h⟩

def aRet (P : Program) (fn : Func) (ins : List Row) (post : AV → List (List AV) → List Row → Prop) (s : St) : Prop :=
  aResL P s fn.results.toList fun us => forceV (oneOf us) fun u => RetB s ins post u

def aRetQ (P : Program) (fn : Func) (ins : List Row) (post : AV → List (List AV) → List Row → Prop) : Exit → St → Prop
  | .normal, s => aRet P fn ins post s
  | .ret, s => aRet P fn ins post s
  | _, _ => False

section
variable {P : Program} {w w0 : World} {φ φ0 : Places} {s : St} {K : Nat → Prop} {a : Act} {env : List Value}

def resOne (tmps : Array Value) : ResultVar → Sem Value
  | .tmp t => pure (tmps.getD t undef)
  | .cell p t => do loadVar t (← asAddr (tmps.getD p undef))

theorem results_eq (fn : Func) (tmps : Array Value) : results fn tmps = (do let vs ← fn.results.mapM (resOne tmps); pure (if h : vs.size = 1 then vs[0] else .tuple vs)) := by
  have e : resOne tmps = fun (r : ResultVar) => match r with
    | .tmp t => (pure (tmps.getD t undef) : Sem Value)
    | .cell a t => (do loadVar t (← asAddr (tmps.getD a undef)) : Sem Value) := by funext r; cases r <;> rfl
  rw [e]
  rfl

theorem aResL_ok (h : SR D w φ a.tmps.toList s) : ∀ (rs : List ResultVar) {k : List AV → Prop}, aResL P s rs k → ∃ (vs : List Value) (us : List AV), (rs.mapM (resOne a.tmps)).run P w = .ok vs w ∧ vs.length = us.length ∧
    us.length = rs.length ∧ (∀ (j : Nat) (v : Value) (u : AV), vs[j]? = some v → us[j]? = some u → VR D w φ s.rows s.ctr v u) ∧ k us
  | [], k, hk => ⟨[], [], by simp, rfl, rfl, fun j v u h => by simp at h, hk⟩
  | .tmp t :: rs, k, hk => by
    obtain ⟨vs, us, h1, h2, h3, h4, h5⟩ := aResL_ok h rs (k := fun us => k (s.env.getD t .un :: us)) hk
    refine ⟨a.tmps.getD t undef :: vs, s.env.getD t .un :: us, by simp [List.mapM_cons, resOne, h1], by simp [h2], by simp [h3], fun j v u hv hu => ?_, h5⟩
    cases j with
    | zero => simp only [List.getElem?_cons_zero, Option.some.injEq] at hv hu; subst hv; subst hu; exact h.evTmp t
    | succ j => exact h4 j v u (by simpa using hv) (by simpa using hu)
  | .cell p t :: rs, k, hk => by
    obtain ⟨v, u, l1, l2, l3⟩ := aLoad_ok h (h.evTmp p) (k := fun u => aResL P s rs fun us => k (u :: us)) hk
    obtain ⟨vs, us, h1, h2, h3, h4, h5⟩ := aResL_ok h rs (k := fun us => k (u :: us)) l3
    have hload := l1 w (Ext.refl w)
    have hrun : (resOne a.tmps (.cell p t)).run P w = .ok v w := by
      show Sem.run P (asAddr (a.tmps.getD p undef) >>= fun x => loadVar t x) w = _
      unfold Instr.loadAt at hload
      generalize a.tmps.getD p undef = pv at hload ⊢
      cases pv with
      | pointer o =>
        cases o with
        | some ad => simpa [Instr.sureAddr, asAddr] using hload
        | none => simp [Instr.sureAddr] at hload
      | _ => simp [Instr.sureAddr] at hload
    refine ⟨v :: vs, u :: us, ?_, by simp [h2], by simp [h3], fun j v' u' hv hu => ?_, h5⟩
    · simp [List.mapM_cons, hrun, h1]
    · cases j with
      | zero => simp only [List.getElem?_cons_zero, Option.some.injEq] at hv hu; subst hv; subst hu; exact l2
      | succ j => exact h4 j v' u' (by simpa using hv) (by simpa using hu)

theorem results_ok (h : SR D w φ a.tmps.toList s) {fn : Func} {k : List AV → Prop} (hk : aResL P s fn.results.toList k) : ∃ v us, (results fn a.tmps).run P w = .ok v w ∧ VR D w φ s.rows s.ctr v (oneOf us) ∧ k us := by
  obtain ⟨vs, us, h1, h2, h3, h4, h5⟩ := aResL_ok (P := P) h fn.results.toList hk
  have hrun : (results fn a.tmps).run P w = .ok (if h : vs.toArray.size = 1 then vs.toArray[0] else .tuple vs.toArray) w := by
    rw [results_eq, Sem.run_bind, Array.mapM_eq_mapM_toList]
    simp only [Sem.run_map, h1, Result.andThen_ok]
    rfl
  refine ⟨_, us, hrun, ?_, h5⟩
  by_cases h0 : vs.toArray.size = 1
  · rw [dif_pos h0]
    match vs, us, h2, h4, h0 with
    | [v], [u], _, h4, _ => exact h4 0 v u rfl rfl
    | [], _, _, _, h0 => simp at h0
    | _ :: _ :: _, _, _, _, h0 => simp at h0
    | [v], [], h2, _, _ => simp at h2
    | [v], _ :: _ :: _, h2, _, _ => simp at h2
  · rw [dif_neg h0]
    have : oneOf us = .tup us := by
      match us, h2 with
      | [], _ => rfl
      | [u], h2 => simp at h2; simp [h2] at h0
      | _ :: _ :: _, _ => rfl
    rw [this]
    exact .tup _ _ (by simp [h2]) (fun j v u hv hu => h4 j v u (by simpa using hv) hu)

end

/-- A function does what its contract says, if its body does so in the abstract. -/
theorem sound_of {P : Program} {f : FuncId} {fn : Func} {c : Code} {sp : CSpec} (hf : P.funcs[f]? = some fn) (hb : fn.body = some c) (hent : Enters P f)
    (h' : ∀ x, sp.pre x → forceL (sp.args x ++ List.replicate (fn.ntmps - (sp.args x).length) .un) fun env => forceR (sp.ins x) fun rows => forceN (sp.ins x).length fun low => awp P c (aRetQ P fn (sp.ins x) (sp.post x)) ⟨env, rows, 1, low⟩) : Sound P f sp := by
  have h : ∀ x, sp.pre x → awp P c (aRetQ P fn (sp.ins x) (sp.post x)) ⟨sp.args x ++ List.replicate (fn.ntmps - (sp.args x).length) .un, sp.ins x, 1, (sp.ins x).length⟩ := fun x hx => by
    have := h' x hx
    rwa [forceL_eq, forceR_eq, forceN_eq] at this
  refine ⟨hent, fun x hpre D w vs φ hsr hver => ?_⟩
  have hl : vs.size = (sp.args x).length := by simpa using hsr.elen
  let K : Nat → Prop := fun b => b < w.heap.size ∧ ¬ φ.O b
  have hinv : Inv D K w φ φ { tmps := vs ++ Array.replicate (fn.ntmps - vs.size) undef, defers := [] } w ⟨sp.args x ++ List.replicate (fn.ntmps - (sp.args x).length) .un, sp.ins x, 1, (sp.ins x).length⟩ := by
    refine ⟨⟨hsr.dis, hsr.dlt, hsr.len, hsr.lo, hsr.inj, hsr.lt, hsr.occ, hsr.ver, hsr.nest, hsr.sz0, by simp [hl], fun i v u hv hu => ?_⟩, Keeps.refl _ _, fun g hg hK => hK.2 hg, Lows.refl _ _ _, hsr.len.symm, fun b hb => hb.1, rfl⟩
    simp only [Array.toList_append, Array.toList_replicate] at hv
    by_cases hi : i < vs.size
    · rw [List.getElem?_append_left (by simpa using hi)] at hv
      rw [List.getElem?_append_left (by omega)] at hu
      exact hsr.env i v u hv hu
    · rw [List.getElem?_append_right (by omega), List.getElem?_replicate] at hu
      split at hu
      · cases hu; exact .un v
      · cases hu
  refine calls_of_wp hf hb (wp_mono (awp_ok c hinv (h x hpre)) ?_)
  have hfv : ∀ s, aRet P fn (sp.ins x) (sp.post x) s → aResL P s fn.results.toList fun us => RetB s (sp.ins x) (sp.post x) (oneOf us) := fun s hs => by
    unfold aRet at hs
    simpa only [forceV_eq] using hs
  have key : ∀ (a : Act) (w' : World), Post D K w φ (aRet P fn (sp.ins x) (sp.post x)) a w' → a.defers = [] ∧ ∃ v, (results fn a.tmps).run P w' = .ok v w' ∧ Left1 D w φ (sp.ins x) (sp.post x) (.returned v) w' := by
    rintro a w' ⟨φf0, sf0, hinv0, hret⟩
    obtain ⟨v, us, hrun, hvr0, sf, hcl, L, rows, r, ic, news, hTn, hrows, hren, hsplit, hic, hpost⟩ := results_ok (P := P) hinv0.sr (hfv sf0 hret)
    obtain ⟨φf, hinv', hmv⟩ := hinv0.closes hcl
    have hvr := hvr0.mv hmv
    obtain ⟨ω, hne⟩ := hinv'.sr.nest
    have hlow : sf.low = φ.l.length := hinv'.lc
    have hφl : φ.l.length = (sp.ins x).length := hsr.len
    generalize hT : List.range sf.low ++ L = T at hTn hrows hren
    obtain ⟨e1, e2, e3, e4⟩ := hinv'.sr.enter hne (args := []) (us := []) (vs := #[]) (bs := []) (T := T) (ins := rows) hTn rfl hrows rfl (fun j v u hv => by simp at hv)
    have hφc : ∀ (i τ : Nat), T[i]? = some τ → (φf.sub ω T).l[i]? = φf.l[τ]? := by
      intro i τ hτ
      obtain ⟨r, c, hr, _⟩ := e4 i τ hτ
      have : τ < φf.l.length := by rw [hinv'.sr.len]; exact (List.getElem?_eq_some_iff.1 hr).1
      simp [Places.sub, List.getElem?_map, hτ, List.getD, List.getElem?_eq_getElem this]
    have hTl : ∀ i, i < φ.l.length → T[i]? = some i := fun i hi => by
      rw [← hT, List.getElem?_append_left (by simp [hlow, hi])]
      simp [hlow, hi]
    obtain ⟨i1, i2⟩ := mapM_get hrows
    have hcells : ∀ r' ∈ rows, resOkL r'.cells = true := fun r' hr' => by
      obtain ⟨i, hi⟩ := List.getElem?_of_mem hr'
      obtain ⟨τ, _, hb⟩ := i2 i r' hi
      simp only [Option.bind_eq_some_iff, Option.map_eq_some_iff] at hb
      obtain ⟨r0, hr0, c, hc, rfl⟩ := hb
      exact renL_resOk hc
    have hicp : ∀ c ∈ ic, resOkL c = true := fun c hc => by
      obtain ⟨i, hi⟩ := List.getElem?_of_mem hc
      have hlt : i < (sp.ins x).length := by rw [← hic]; exact (List.getElem?_eq_some_iff.1 hi).1
      have hu : rows[i]? = some { (sp.ins x)[i] with cells := c } := by
        rw [hsplit, List.getElem?_append_left (by rw [upd_length hic]; exact hlt), upd_get (List.getElem?_eq_getElem hlt) hi]
      exact hcells _ (List.mem_of_getElem? hu)
    have hnp : ∀ n ∈ news, n.ver = 0 ∧ resOkL n.cells = true := fun n hn => by
      have hm : n ∈ rows := by rw [hsplit]; exact List.mem_append.2 (.inr hn)
      exact ⟨e2 n hm, hcells n hm⟩
    have hvc : VR D w' (φf.sub ω T) rows 1 v r := SR.ren e1.dis hφc e4 hvr hren
    refine ⟨hinv'.df, v, hrun, v, r, ic, news, φf.sub ω T, rfl, hpost, hic, hicp, hnp, ren_resOk hren, hinv'.kp, ?_, ?_, ?_⟩
    · rw [← hsplit]
      refine ⟨e1.dis, e1.dlt, e1.len, Nat.zero_le _, e1.inj, e1.lt, e1.occ, e1.ver, e1.nest, e1.sz0, rfl, fun i v' u hv hu => ?_⟩
      cases i with
      | zero =>
        simp at hv hu
        subst hv; subst hu
        exact hvc
      | succ i => simp at hv
    · have hlw := hinv'.lw
      rw [hlow, hφl] at hlw
      refine ⟨fun i hi => ?_, hlw.bl⟩
      rw [hφc i i (hTl i (by rw [hφl]; exact hi))]
      exact hlw.pl i hi
    · intro b hb
      have hO : φf.O b := by
        obtain ⟨τ, _, h1 | ⟨j, p, h1⟩⟩ := hb
        · exact hinv'.sr.occ b (List.mem_of_getElem? h1)
        · exact hne.ap.oc τ j p b h1
      have hnK := hinv'.ap b hO
      rcases Nat.lt_or_ge b w.heap.size with h2 | h2
      · left
        exact Classical.byContradiction fun h3 => hnK ⟨h2, h3⟩
      · exact .inr h2
  intro e a w' hp
  cases e with
  | normal => exact key a w' hp
  | ret => exact key a w' hp
  | exit id => obtain ⟨_, _, _, hf⟩ := hp; exact hf.elim
  | goto l => obtain ⟨_, _, _, hf⟩ := hp; exact hf.elim
  | panic ch => obtain ⟨_, _, _, hf⟩ := hp; exact hf.elim
  | outgrown => obtain ⟨_, _, _, hf⟩ := hp; exact hf.elim

end Go.Am
