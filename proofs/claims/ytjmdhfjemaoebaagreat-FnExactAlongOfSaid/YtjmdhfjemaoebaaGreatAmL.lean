import Derived.Test.YtjmdhfjemaoebaaGreatAmS
namespace Go.Am
open Go.RowKit
variable {D : Nat → Prop}
def slTy (P : Program) (t : TypeId) (k : TypeId → Nat → Prop) : Prop :=
  match P.underlying t with
  | some (.slice e) =>
    match tsz P e with
    | some 1 => k e 1
    | some (n + 2) => k e (n + 2)
    | _ => k 0 0
  | _ => k 0 0
theorem slTy_out {P : Program} {t : TypeId} {k : TypeId → Nat → Prop} (h : slTy P t k) : ∃ e z, k e z := by
  unfold slTy at h
  split at h
  · split at h
    · exact ⟨_, _, h⟩
    · exact ⟨_, _, h⟩
    · exact ⟨_, _, h⟩
  · exact ⟨_, _, h⟩
def forceR (rs : List Row) (k : List Row → Prop) : Prop :=
  match rs with
  | [] => k []
  | r :: rs => match r with | ⟨v, e, z, c⟩ => forceN v fun v' => forceR rs fun rs' => k (⟨v', e, z, c⟩ :: rs')
theorem forceR_eq : ∀ (rs : List Row) (k : List Row → Prop), forceR rs k = k rs
  | [], k => rfl
  | ⟨v, e, z, c⟩ :: rs, k => by unfold forceR; simp only; rw [forceN_eq, forceR_eq rs]
def forceS (s : St) (k : St → Prop) : Prop :=
  match s with
  | ⟨env, rows, ctr, low⟩ => forceR rows fun rows' => forceN ctr fun ctr' => forceN low fun low' => k ⟨env, rows', ctr', low'⟩
theorem forceS_eq (s : St) (k : St → Prop) : forceS s k = k s := by cases s; unfold forceS; simp only; rw [forceR_eq, forceN_eq, forceN_eq]
def setK (env : List AV) (d : Nat) (u : AV) (k : List AV → Prop) : Prop :=
  match env with
  | [] => k []
  | x :: xs =>
    match d with
    | 0 => k (u :: xs)
    | d + 1 => setK xs d u fun xs' => k (x :: xs')
theorem setK_eq : ∀ (env : List AV) (d : Nat) (u : AV) (k : List AV → Prop), setK env d u k = k (env.set d u)
  | [], d, u, k => by unfold setK; simp
  | x :: xs, 0, u, k => rfl
  | x :: xs, d + 1, u, k => by unfold setK; simp only; rw [setK_eq xs d u]; rfl
def St.putK (s : St) (dst : Option Tmp) (u : AV) (k : St → Prop) : Prop :=
  match s with
  | ⟨env, rows, ctr, low⟩ =>
    match dst with
    | none => k ⟨env, rows, ctr, low⟩
    | some d => forceV u fun u' => setK env d u' fun env' => k ⟨env', rows, ctr, low⟩
theorem putK_eq (s : St) (dst : Option Tmp) (u : AV) (k : St → Prop) : s.putK dst u k = k (s.put dst u) := by
  cases s
  cases dst with
  | none => rfl
  | some d => unfold St.putK; simp only; rw [forceV_eq, setK_eq]; rfl
def thenPut (dst : Option Tmp) (k : St → Prop) (u : AV) (s' : St) : Prop := forceS s' fun s'' => s''.putK dst u k
theorem thenPut_eq (dst : Option Tmp) (k : St → Prop) : thenPut dst k = fun u s' => k (s'.put dst u) := by
  funext u s'; unfold thenPut; rw [forceS_eq, putK_eq]
def AV.val : AV → Option Value
  | .int k n => some (.int k n)
  | .bool b => some (.bool b)
  | .str b => some (.string b)
  | _ => none
def scalL (us : List AV) : Bool := us.all fun u => u.val.isSome
theorem scal_pure {u : AV} (h : u.val.isSome = true) : u.pure = true := by cases u <;> simp [AV.val] at h <;> rfl
theorem scal_prot {u : AV} (h : u.val.isSome = true) : u.prot = true := by cases u <;> simp [AV.val] at h <;> rfl
theorem scal_tree {s : St} {T : List Nat} {f : Nat} {u : AV} (h : u.val.isSome = true) : s.tree T (f + 1) u = some u := by cases u <;> simp [AV.val] at h <;> rfl
theorem scalL_pure : ∀ {us : List AV}, scalL us = true → pureL us = true
  | [], _ => rfl
  | u :: us, h => by
    simp only [scalL, List.all_cons, Bool.and_eq_true] at h
    simp only [pureL, scal_pure h.1, scalL_pure (us := us) h.2, Bool.and_self]
theorem scalL_prot : ∀ {us : List AV}, scalL us = true → protL us = true
  | [], _ => rfl
  | u :: us, h => by
    simp only [scalL, List.all_cons, Bool.and_eq_true] at h
    simp only [protL, scal_prot h.1, scalL_prot (us := us) h.2, Bool.and_self]
theorem scalL_tree {s : St} {T : List Nat} {f : Nat} : ∀ {us : List AV}, scalL us = true → us.mapM (s.tree T (f + 1)) = some us
  | [], _ => rfl
  | u :: us, h => by
    simp only [scalL, List.all_cons, Bool.and_eq_true] at h
    simp [List.mapM_cons, scal_tree h.1, scalL_tree (us := us) h.2]
def AV.tr : Nat → AV → Option AV
  | 0, _ => none
  | f + 1, u =>
    match u with
    | .nil => some (.sl 0 0 [])
    | .ref _ _ _ _ => none
    | .agg cs => (cs.mapM (AV.tr f)).map .agg
    | .own _ _ n cs => (cs.mapM (AV.tr f)).map (.sl 0 n)
    | u => if u.pure = true then some u else none
theorem mapM_imp {f g : AV → Option AV} (h : ∀ u u', f u = some u' → g u = some u') : ∀ {us us' : List AV}, us.mapM f = some us' → us.mapM g = some us'
  | [], us', e => e
  | u :: us, us', e => by
    simp only [List.mapM_cons, Option.pure_def, Option.bind_eq_bind, Option.bind_eq_some_iff, Option.some.injEq] at e ⊢
    obtain ⟨v, h1, vs, h2, h3⟩ := e
    exact ⟨v, h u v h1, vs, mapM_imp h h2, h3⟩
theorem tr_tree {s : St} {T : List Nat} : ∀ (f : Nat) (u u' : AV), AV.tr f u = some u' → s.tree T f u = some u'
  | 0, u, u', e => by cases e
  | f + 1, u, u', e => by
    cases u with
    | ref t v o n => cases e
    | agg cs =>
      have e : (cs.mapM (AV.tr f)).map AV.agg = some u' := e
      show (cs.mapM (s.tree T f)).map AV.agg = some u'
      rw [Option.map_eq_some_iff] at e ⊢
      obtain ⟨vs, h1, h2⟩ := e
      exact ⟨vs, mapM_imp (fun a b h => tr_tree f a b h) h1, h2⟩
    | own ty z n cs =>
      have e : (cs.mapM (AV.tr f)).map (AV.sl 0 n) = some u' := e
      show (cs.mapM (s.tree T f)).map (AV.sl 0 n) = some u'
      rw [Option.map_eq_some_iff] at e ⊢
      obtain ⟨vs, h1, h2⟩ := e
      exact ⟨vs, mapM_imp (fun a b h => tr_tree f a b h) h1, h2⟩
    | _ => exact e
theorem scal_tr {f : Nat} {u : AV} (h : u.val.isSome = true) : AV.tr (f + 1) u = some u := by cases u <;> simp [AV.val] at h <;> rfl
theorem scalL_tr {f : Nat} : ∀ {us : List AV}, scalL us = true → us.mapM (AV.tr (f + 1)) = some us
  | [], _ => rfl
  | u :: us, h => by
    simp only [scalL, List.all_cons, Bool.and_eq_true] at h
    simp [List.mapM_cons, scal_tr h.1, scalL_tr (us := us) h.2]
def aCut (f : Nat) (cells : List AV) (off m : Nat) (k : List AV → Prop) : Prop := off + m ≤ cells.length ∧ ∃ cs, ((cells.drop off).take m).mapM (AV.tr f) = some cs ∧ k cs
theorem cut_tr {f : Nat} {cells cs : List AV} {m : Nat} {k : List AV → Prop} (hm : m = cells.length) (ht : cells.mapM (AV.tr f) = some cs) (hk : k cs) : aCut f cells 0 m k := by
  subst hm
  exact ⟨by omega, cs, by simpa using ht, hk⟩
theorem cut_all {f : Nat} {cells : List AV} {m : Nat} {k : List AV → Prop} (hm : m = cells.length) (hs : scalL cells = true) (hk : k cells) : aCut (f + 1) cells 0 m k := cut_tr hm (scalL_tr hs) hk
def aArgs (s : St) : List AV → (List AV → Prop) → Prop
  | [], k => k []
  | u :: us, k =>
    match u with
    | .int j n => aArgs s us fun us' => k (.int j n :: us')
    | .bool b => aArgs s us fun us' => k (.bool b :: us')
    | .str b => aArgs s us fun us' => k (.str b :: us')
    | .nil => aArgs s us fun us' => k (.sl 0 0 [] :: us')
    | .sl c n cells => pureL cells = true ∧ aArgs s us fun us' => k (.sl c n cells :: us')
    | .ref τ ver off n => aRow s τ ver fun r => aCut 3 r.cells off (n * r.size) fun cells => aArgs s us fun us' => k (.sl 0 n cells :: us')
    | .agg cs => aAgg s cs fun cs' => aArgs s us fun us' => k (.agg cs' :: us')
    | _ => False
  where
  aAgg (s : St) : List AV → (List AV → Prop) → Prop
  | [], k => k []
  | u :: us, k =>
    match u with
    | .int j n => aAgg s us fun us' => k (.int j n :: us')
    | .bool b => aAgg s us fun us' => k (.bool b :: us')
    | .str b => aAgg s us fun us' => k (.str b :: us')
    | .nil => aAgg s us fun us' => k (.sl 0 0 [] :: us')
    | .sl c n cells => pureL cells = true ∧ aAgg s us fun us' => k (.sl c n cells :: us')
    | .ref τ ver off n => aRow s τ ver fun r => aCut 2 r.cells off (n * r.size) fun cells => aAgg s us fun us' => k (.sl 0 n cells :: us')
    | _ => False
theorem tree_ref {s : St} {T : List Nat} {τ ver off n f : Nat} {r : Row} {cs : List AV} (hr : s.rows[τ]? = some r) (hc : r.ver = ver ∧ off + n * r.size ≤ r.cells.length ∧ τ ∉ T) (hm : ((r.cells.drop off).take (n * r.size)).mapM (s.tree T f) = some cs) : s.tree T (f + 1) (.ref τ ver off n) = some (.sl 0 n cs) := by
  show (match s.rows[τ]? with
      | some r => if r.ver = ver ∧ off + n * r.size ≤ r.cells.length ∧ τ ∉ T then (((r.cells.drop off).take (n * r.size)).mapM (s.tree T f)).map (AV.sl 0 n) else none
      | none => none) = _
  rw [hr]
  simp only
  rw [if_pos hc, hm]
  rfl
theorem tree_agg {s : St} {T : List Nat} {f : Nat} {us us' : List AV} (h : us.mapM (s.tree T f) = some us') : s.tree T (f + 1) (.agg us) = some (.agg us') := by
  show (us.mapM (s.tree T f)).map AV.agg = _
  rw [h]; rfl
theorem tree_sl {s : St} {T : List Nat} {f c n : Nat} {us : List AV} (h : pureL us = true) : s.tree T (f + 1) (.sl c n us) = some (.sl c n us) := by
  show (if (AV.sl c n us).pure = true then some (AV.sl c n us) else none) = _
  rw [if_pos]; exact h
theorem mapM_next {f : AV → Option AV} {u u' : AV} {us us' : List AV} (h : f u = some u') (h' : us.mapM f = some us') : (u :: us).mapM f = some (u' :: us') := by
  simp [List.mapM_cons, h, h']
theorem aCut_tree {s : St} {τ ver off n : Nat} {r : Row} {k : List AV → Prop} (f : Nat) (hr : s.rows[τ]? = some r) (hv : r.ver = ver) (h : aCut f r.cells off (n * r.size) k) : ∃ cells, s.tree [] (f + 1) (.ref τ ver off n) = some (.sl 0 n cells) ∧ k cells := by
  obtain ⟨h1, cs, h2, h3⟩ := h
  exact ⟨cs, tree_ref hr ⟨hv, h1, by simp⟩ (mapM_imp (fun a b e => tr_tree f a b e) h2), h3⟩
theorem aAgg_out {s : St} : ∀ {us : List AV} {k : List AV → Prop}, aArgs.aAgg s us k → ∃ us', us.mapM (s.tree [] 3) = some us' ∧ k us'
  | [], k, h => ⟨[], rfl, h⟩
  | u :: us, k, h => by
    unfold aArgs.aAgg at h
    split at h
    · obtain ⟨us', h1, h2⟩ := aAgg_out h; exact ⟨_, mapM_next rfl h1, h2⟩
    · obtain ⟨us', h1, h2⟩ := aAgg_out h; exact ⟨_, mapM_next rfl h1, h2⟩
    · obtain ⟨us', h1, h2⟩ := aAgg_out h; exact ⟨_, mapM_next rfl h1, h2⟩
    · obtain ⟨us', h1, h2⟩ := aAgg_out h; exact ⟨_, mapM_next rfl h1, h2⟩
    · obtain ⟨hp, h⟩ := h
      obtain ⟨us', h1, h2⟩ := aAgg_out h; exact ⟨_, mapM_next (tree_sl hp) h1, h2⟩
    · obtain ⟨r, hr, hv, h⟩ := aRow_out h
      obtain ⟨cells, hc, h⟩ := aCut_tree 2 hr hv h
      obtain ⟨us', h1, h2⟩ := aAgg_out h; exact ⟨_, mapM_next hc h1, h2⟩
    · exact h.elim
theorem callArgs_next {s : St} {u u' : AV} {us us' : List AV} (h : callArg s [] false u = some u') (h' : callArgs s [] [] us = some us') : callArgs s [] [] (u :: us) = some (u' :: us') := by
  show (callArg s [] false u).bind _ = _
  rw [h]
  show (callArgs s [] [] us).map _ = _
  rw [h']; rfl
theorem aArgs_out {s : St} : ∀ {us : List AV} {k : List AV → Prop}, aArgs s us k → ∃ us', callArgs s [] [] us = some us' ∧ k us'
  | [], k, h => ⟨[], rfl, h⟩
  | u :: us, k, h => by
    unfold aArgs at h
    split at h
    · obtain ⟨us', h1, h3⟩ := aArgs_out h; exact ⟨_, callArgs_next rfl h1, h3⟩
    · obtain ⟨us', h1, h3⟩ := aArgs_out h; exact ⟨_, callArgs_next rfl h1, h3⟩
    · obtain ⟨us', h1, h3⟩ := aArgs_out h; exact ⟨_, callArgs_next rfl h1, h3⟩
    · obtain ⟨us', h1, h3⟩ := aArgs_out h; exact ⟨_, callArgs_next rfl h1, h3⟩
    · obtain ⟨hp, h⟩ := h
      obtain ⟨us', h1, h3⟩ := aArgs_out h; exact ⟨_, callArgs_next (tree_sl (s := s) (T := []) (f := 3) hp) h1, h3⟩
    · obtain ⟨r, hr, hv, h⟩ := aRow_out h
      obtain ⟨cells, hc, h⟩ := aCut_tree 3 hr hv h
      obtain ⟨us', h1, h3⟩ := aArgs_out h; exact ⟨_, callArgs_next hc h1, h3⟩
    · obtain ⟨cs', h1, h⟩ := aAgg_out h
      obtain ⟨us', h2, h4⟩ := aArgs_out h; exact ⟨_, callArgs_next (tree_agg (s := s) (T := []) (f := 3) h1) h2, h4⟩
    · exact h.elim
def CallB (P : Program) (f : FuncId) (s : St) (us : List AV) (k : AV → St → Prop) : Prop :=
  ∃ sp : CSpec, Sound P f sp ∧ sp.inout = [] ∧ ∃ x, us = sp.args x ∧ sp.ins x = [] ∧ sp.pre x ∧ ∀ r news, sp.post x r [] news → k (r.back s []) ⟨s.env, s.rows ++ s.news [] news, s.ctr + 1, s.low⟩
def CallG (P : Program) (f : FuncId) (s : St) (args : List AV) (k : AV → St → Prop) : Prop := aArgs s args (fun us => CallB P f s us k) ∨ aCall P f s args k
theorem callG_t {P : Program} {f : FuncId} {s : St} {args : List AV} {k : AV → St → Prop} (h : aArgs s args fun us => CallB P f s us k) : CallG P f s args k := .inl h
theorem callG_x {P : Program} {f : FuncId} {s : St} {args : List AV} {k : AV → St → Prop} (h : aCall P f s args k) : CallG P f s args k := .inr h
theorem callB_out {P : Program} {f : FuncId} {s : St} {args : List AV} {k : AV → St → Prop} (h : aArgs s args fun us => CallB P f s us k) : aCallT P f s [] args k := by
  obtain ⟨us, h1, sp, hs, hio, x, rfl, hins, hpre, hk⟩ := aArgs_out h
  refine ⟨sp, hs, sp.args x, [], List.nodup_nil, by rw [hio]; exact h1, rfl, x, rfl, hins.symm, hpre, fun r ic news hp hic => ?_⟩
  have : ic = [] := List.eq_nil_of_length_eq_zero (by simpa using hic)
  subst this
  exact hk r news hp
theorem CallG.out {P : Program} {f : FuncId} {s : St} {args : List AV} {k : AV → St → Prop} (h : CallG P f s args k) : aCall P f s args k := by
  rcases h with h | h
  · exact ⟨[], callB_out h⟩
  · exact h
theorem callB_in {P : Program} {f : FuncId} {sp : CSpec} (hs : Sound P f sp) (hio : sp.inout = []) (x : sp.ι) (hins : sp.ins x = []) (hpre : sp.pre x) {s : St} {k : AV → St → Prop}
    (hk : ∀ r news, sp.post x r [] news → k (r.back s []) ⟨s.env, s.rows ++ s.news [] news, s.ctr + 1, s.low⟩) : CallB P f s (sp.args x) k := ⟨sp, hs, hio, x, rfl, hins, hpre, hk⟩
def aTake (s : St) (τ j : Nat) (r : Row) (u : AV) (k : AV → St → Prop) : Prop :=
  match u with
  | .own e z n cs => k (.ref s.rows.length s.ctr 0 n) (s.openAt τ j r e z n cs)
  | u => k u s
inductive St.opens : St → St → Prop
  | refl (s : St) : St.opens s s
  | step (s s' : St) (τ j : Nat) (r : Row) (e : TypeId) (z n : Nat) (cs : List AV) (hr : s.rows[τ]? = some r) (hc : r.cells[j]? = some (.own e z n cs)) (h : St.opens (s.openAt τ j r e z n cs) s') : St.opens s s'
def aLoadA (P : Program) (s : St) (t : TypeId) (p : AV) (k : AV → St → Prop) : Prop := ∃ s', St.opens s s' ∧ aLoad P s' t p fun u => k u s'
theorem load_same {P : Program} {s : St} {t : TypeId} {p : AV} {k : AV → St → Prop} (h : aLoad P s t p fun u => k u s) : aLoadA P s t p k := ⟨s, .refl s, h⟩
def aNest (P : Program) (t : TypeId) : Bool :=
  match P.underlying t with
  | some (.slice e) =>
    match P.underlying e with
    | some (.slice _) => true
    | some d => isAggD d
    | none => false
  | _ => false
def aAppendO (P : Program) (s : St) (t : TypeId) (x y : AV) (k : AV → St → Prop) : Prop :=
  match aNest P t with
  | true => ∃ s', St.opens s s' ∧ aAppend P s' t x y k
  | false => aAppend P s t x y k
theorem append_same {P : Program} {s : St} {t : TypeId} {x y : AV} {k : AV → St → Prop} (h : aAppend P s t x y k) : ∃ s', St.opens s s' ∧ aAppend P s' t x y k := ⟨s, .refl s, h⟩
def aLoadO (P : Program) (s : St) (t : TypeId) (p : AV) (k : AV → St → Prop) : Prop :=
  match p with
  | .ptr τ ver off =>
    match P.underlying t with
    | some d => if isAggD d = true then aLoadA P s t (.ptr τ ver off) k else aRow s τ ver fun r => aGet (r.cells.drop off) 0 fun u => aTake s τ off r u k
    | none => False
  | p => aLoad P s t p fun u => k u s
def aOp (P : Program) (o : Oper) (s : St) (k : St → Prop) : Prop :=
  match o.op with
  | .assign x =>
    match s.ev x with
    | .nil => slTy P o.type fun e z => thenPut o.dst k (.ref s.rows.length s.ctr 0 0) (s.push ⟨s.ctr, e, z, []⟩)
    | u => s.putK o.dst u k
  | .alloc e => aAlloc P s e (thenPut o.dst k)
  | .box e x => aBox P s e (s.ev x) (thenPut o.dst k)
  | .build t parts => aBuild P s t (parts.toList.map fun p => (p.1, s.ev p.2)) (thenPut o.dst k)
  | .buildSlice t len parts => aBuildSlice P s t len (parts.toList.map fun p => (p.1, s.ev p.2)) (thenPut o.dst k)
  | .makeSlice t l c => aMake P s t (s.ev l) (s.ev c) (thenPut o.dst k)
  | .store t p v => aStore P s t (s.ev p) (s.ev v) (thenPut o.dst k .un)
  | .load t p => aLoadO P s t (s.ev p) (thenPut o.dst k)
  | .call c =>
    match c.callee with
    | .builtin .append =>
      match c.args.toList, c.argTypes.toList with
      | [x, y], [t, t'] => if t' = t then aAppendO P s t (s.ev x) (s.ev y) (thenPut o.dst k) else False
      | _, _ => False
    | .value (.func f) => CallG P f s (c.args.toList.map s.ev) (thenPut o.dst k)
    | _ => aVal P o s fun u => s.putK o.dst u k
  | _ => aVal P o s fun u => s.putK o.dst u k
def aGuard (all : Array Oper) (s : St) (j : Nat) (k : Tmp → Bool → Prop) (ks : Prop) : Prop :=
  match (all[j]?).bind (·.dst) with
  | some d =>
    match s.env.getD d .un with
    | .bool b => k d b
    | .tup [] => ks
    | _ => False
  | none => False
def aOps (P : Program) (all : Array Oper) : List Oper → St → (St → Prop) → Prop
  | [], s, k => k s
  | o :: rest, s, k =>
    match o.guard with
    | none => aOp P o s fun s' => aOps P all rest s' k
    | some (j, want) => aGuard all s j (fun d b => aIf (b == want) (s.putK (some d) (.bool want) fun s1 => aOp P o s1 fun s' => aOps P all rest s' k) (s.putK (some d) (.bool (!want)) fun s1 => s1.putK o.dst (.tup []) fun s2 => aOps P all rest s2 k)) (s.putK o.dst (.tup []) fun s2 => aOps P all rest s2 k)
section
variable {P : Program} {w w0 : World} {φ φ0 : Places} {s : St} {K : Nat → Prop} {a : Act}
theorem Inv.hKl (h : Inv D K w0 φ0 φ a w s) : ∀ b, K b → b < w.heap.size := fun b hb => Nat.lt_of_lt_of_le (h.kl b hb) h.kp.size
theorem Inv.next (h : Inv D K w0 φ0 φ a w s) {w' : World} {φ' : Places} {s' : St} (dst : Option Tmp) {v : Value} {u : AV} (h1 : SR D w' φ' a.tmps.toList s') (h2 : VR D w' φ' s'.rows s'.ctr v u) (h3 : Keeps K w w') (h4 : ∀ g, φ'.O g → φ.O g ∨ w.heap.size ≤ g)
    (h5 : Lows s.low w φ w' φ') (h6 : s'.low = s.low) : Inv D K w0 φ0 φ' (a.put dst v) w' (s'.put dst u) :=
  ⟨h1.put dst h2, h.kp.trans h3 (fun _ hx => hx), fun g hg hKg => by
    rcases h4 g hg with h' | h'
    · exact h.ap g h' hKg
    · have := h.hKl g hKg; omega, by
    have : (s'.put dst u).low = s.low := by cases dst <;> exact h6
    rw [this]; exact h.lw.trans h5, by
    have : (s'.put dst u).low = s.low := by cases dst <;> exact h6
    rw [this]; exact h.lc, h.kl, by rw [put_defers]; exact h.df⟩
theorem Inv.opens {s s' : St} (ho : St.opens s s') : ∀ {φ : Places}, Inv D K w0 φ0 φ a w s → ∃ φ', Inv D K w0 φ0 φ' a w s' ∧ Mv w φ s.rows s.ctr w φ' s'.rows s'.ctr := by
  induction ho with
  | refl s => intro φ h; exact ⟨φ, h, Mv.refl _ _ _ _⟩
  | step s s' τ j r e z n cs hr hc _ ih =>
    intro φ h
    obtain ⟨ob, g', v, cur, a1, a2, a3, a4, a5, a6, a7⟩ := h.sr.openAt hr hc
    obtain ⟨φ', b1, b2⟩ := ih (φ := ⟨φ.l ++ [ob], φ.O⟩) ⟨a5, h.kp, h.ap, by
      refine h.lw.trans (Lows.new (fun i hi => ?_) (fun _ _ => rfl))
      show (φ.l ++ [ob])[i]? = _
      have hi : i < s.low := hi
      have h1 := h.sr.lo
      have h2 := h.sr.len
      exact List.getElem?_append_left (by omega), h.lc, h.kl, h.df⟩
    exact ⟨φ', b1, a6.trans b2⟩
theorem aLoadO_ok (h : Inv D K w0 φ0 φ a w s) {t : TypeId} {p : AV} {pv : Value} {k : AV → St → Prop} (hp : VR D w φ s.rows s.ctr pv p) (hk : aLoadO P s t p k) :
    ∃ v u φ' s', (∀ w', Ext w w' → (Instr.loadAt t pv).run P w' = .ok v w') ∧ Inv D K w0 φ0 φ' a w s' ∧ VR D w φ' s'.rows s'.ctr v u ∧ k u s' := by
  have plain : ∀ {q : AV}, VR D w φ s.rows s.ctr pv q → (aLoad P s t q fun u => k u s) → ∃ v u φ' s', (∀ w', Ext w w' → (Instr.loadAt t pv).run P w' = .ok v w') ∧ Inv D K w0 φ0 φ' a w s' ∧ VR D w φ' s'.rows s'.ctr v u ∧ k u s' := fun hq hk => by
    obtain ⟨v, u, h1, h2, h3⟩ := aLoad_ok h.sr hq hk
    exact ⟨v, u, φ, s, h1, h, h2, h3⟩
  unfold aLoadO at hk
  split at hk
  · rename_i τ ver off
    split at hk
    case h_2 => exact hk.elim
    rename_i d hd
    split at hk
    · obtain ⟨s1, ho, hk⟩ := hk
      obtain ⟨φ1, hi, hm⟩ := h.opens ho
      obtain ⟨v, u, h1, h2, h3⟩ := aLoad_ok hi.sr (hp.mv hm) hk
      exact ⟨v, u, φ1, s1, h1, hi, h2, h3⟩
    · rename_i hagg
      have hagg : isAggD d = false := by simpa using hagg
      obtain ⟨r, hr, hver, u, hu, hk⟩ := aRow_out hk
      cases hp with
      | ptr _ _ _ _ _ _ hx =>
        obtain ⟨g, hg, rfl⟩ := hx r hr hver
        have run : ∀ v w', w'.cell? ⟨g, off, none⟩ = some v → (Instr.loadAt t (.pointer (some ⟨g, off, none⟩))).run P w' = .ok v w' := fun v w' hv => by
          simp only [Instr.loadAt, Instr.sureAddr, Sem.run_bind, Sem.run_pure, Result.andThen_ok]
          unfold loadVar
          simp only [Sem.run_bind, run_isAgg hd, Result.andThen_ok, hagg, run_load, hv, Bool.false_eq_true, if_false]
        have hat := h.sr.at_row hr hg off
        cases ho : u.isOwn with
        | false =>
          obtain ⟨v, h1, _, h3⟩ := hat 0 u hu
          have hk : k u s := by unfold aTake at hk; cases u <;> first | exact hk | (simp [AV.isOwn] at ho)
          have e0 : (⟨g, off, none⟩ : Addr).add 0 = ⟨g, off, none⟩ := by simp [Addr.add]
          rw [e0] at h1
          exact ⟨v, u, φ, s, fun w' hw => run v w' (h1 w' hw), h, h3 ho, hk⟩
        | true =>
          cases u with
          | own e z n cs =>
            have hc : r.cells[off]? = some (.own e z n cs) := by rw [List.getElem?_drop] at hu; exact hu
            obtain ⟨ob, g', v, cur, a1, a2, a3, a4, a5, a6, a7⟩ := h.sr.openAt hr hc
            rw [hg] at a1; cases a1
            refine ⟨v, _, _, _, fun w' hw => run v w' ?_, ⟨a5, h.kp, h.ap, ?_, h.lc, h.kl, h.df⟩, a7, hk⟩
            · rw [hw.cell (lt_of_heap a2)]
              simp [World.cell?, a2, a3]
            · refine h.lw.trans (Lows.new (fun i hi => ?_) (fun _ _ => rfl))
              show (φ.l ++ [ob])[i]? = _
              have hi : i < s.low := hi
              have h1 := h.sr.lo
              have h2 := h.sr.len
              exact List.getElem?_append_left (by omega)
          | _ => simp [AV.isOwn] at ho
  · exact plain hp hk
def Post (D : Nat → Prop) (K : Nat → Prop) (w0 : World) (φ0 : Places) (k : St → Prop) (a : Act) (w : World) : Prop := ∃ φ s, Inv D K w0 φ0 φ a w s ∧ k s
theorem wp_does {o : Oper} {k : AV → St → Prop} {next : Act → World → Prop} {Q : Exit → Act → World → Prop} (h : Inv D K w0 φ0 φ a w s) {sem : Sem Value} (he : execOp a.eval o = (do pure (.value (← sem)))) (hd : Does D s.low P w φ a.tmps.toList K sem k)
    (hn : ∀ a' w' φ' s' u, Inv D K w0 φ0 φ' a' w' (s'.put o.dst u) → k u s' → next a' w') : o.wp P a w next Q := by
  obtain ⟨v, u, w', φ', s', h1, h2, h3, h4, h5, h6, h7, h8⟩ := hd
  unfold Oper.wp
  rw [he]
  simp only [Sem.run_bind, h1, Result.andThen_ok, Sem.run_pure]
  exact hn _ _ φ' s' u (h.next o.dst h2 h3 h4 h5 h6 h7) h8
theorem aVal_wp {o : Oper} {k : St → Prop} {next : Act → World → Prop} {Q : Exit → Act → World → Prop} (h : Inv D K w0 φ0 φ a w s) (hk : aVal P o s fun u => k (s.put o.dst u)) (hn : ∀ a' w', Post D K w0 φ0 k a' w' → next a' w') : o.wp P a w next Q := by
  obtain ⟨v, u, h1, h2, h3⟩ := aVal_ok h.sr hk
  unfold Oper.wp
  rw [h1 w (Ext.refl w)]
  exact hn _ _ ⟨φ, _, h.put o.dst h2, h3⟩
theorem evs_ok (h : SR D w φ a.tmps.toList s) (xs : Array Operand) : (xs.map a.eval).size = (xs.toList.map s.ev).length ∧ ∀ (j : Nat) (v : Value) (u : AV), (xs.map a.eval)[j]? = some v → (xs.toList.map s.ev)[j]? = some u → VR D w φ s.rows s.ctr v u := by
  refine ⟨by simp, fun j v u hv hu => ?_⟩
  simp only [Array.getElem?_map, List.getElem?_map, Option.map_eq_some_iff] at hv hu
  obtain ⟨x, hx, rfl⟩ := hv
  obtain ⟨y, hy, rfl⟩ := hu
  have : x = y := by simp at hy; rw [hx] at hy; exact Option.some.inj hy
  subst this
  exact h.ev x
theorem parts_ok (h : SR D w φ a.tmps.toList s) (ps : Array (Nat × Operand)) : (ps.map fun (p : Nat × Operand) => (p.1, a.eval p.2)).toList.map (·.1) = (ps.toList.map fun p => (p.1, s.ev p.2)).map (·.1) ∧
    ∀ (j : Nat) (x : Nat × Value) (y : Nat × AV), (ps.map fun (p : Nat × Operand) => (p.1, a.eval p.2)).toList[j]? = some x → (ps.toList.map fun p => (p.1, s.ev p.2))[j]? = some y → VR D w φ s.rows s.ctr x.2 y.2 := by
  refine ⟨by simp, fun j x y hx hy => ?_⟩
  simp only [Array.toList_map, List.getElem?_map, Option.map_eq_some_iff] at hx hy
  obtain ⟨p, hp, rfl⟩ := hx
  obtain ⟨q, hq, rfl⟩ := hy
  rw [hp] at hq; cases hq
  exact h.ev p.2
theorem aOp_wp {o : Oper} {k : St → Prop} {next : Act → World → Prop} {Q : Exit → Act → World → Prop} (h : Inv D K w0 φ0 φ a w s) (hk : aOp P o s k) (hn : ∀ a' w', Post D K w0 φ0 k a' w' → next a' w') : o.wp P a w next Q := by
  have fin : ∀ (a' : Act) (w' : World) (φ' : Places) (s' : St) (u : AV), Inv D K w0 φ0 φ' a' w' (s'.put o.dst u) → k (s'.put o.dst u) → next a' w' := fun a' w' φ' s' u h1 h2 => hn _ _ ⟨φ', _, h1, h2⟩
  unfold aOp at hk
  simp only [thenPut_eq, putK_eq] at hk
  split at hk
  · rename_i x ho
    have hx := h.sr.ev x
    unfold Oper.wp execOp
    simp only [ho, Sem.run_pure]
    generalize s.ev x = xu at hk hx
    split at hk
    · obtain ⟨e, z, hk⟩ := slTy_out hk
      cases hx' : a.eval x with
      | slice A n c =>
        rw [hx'] at hx
        cases hx with
        | nil =>
        obtain ⟨b1, b2⟩ := h.sr.push (r := ⟨s.ctr, e, z, []⟩) (ob := none) rfl (Ext.refl w) (fun g hg => by cases hg) ⟨rfl, fun _ => rfl⟩ (fun _ => rfl)
        refine hn _ _ ⟨φ.snoc none, _, h.next o.dst b1 (u := .ref s.rows.length s.ctr 0 0) ?_ (Keeps.refl _ _) (fun g hg => .inl (by simpa [Places.snoc] using hg)) (Lows.new (fun i hi => List.getElem?_append_left (by have h1 := h.sr.lo; have h2 := h.sr.len; omega)) (fun _ _ => rfl)) rfl, hk⟩
        refine .ref _ _ _ _ _ (by simp [St.push]) rfl fun r hr hver => .inl ⟨?_, rfl, rfl, rfl⟩
        rw [← h.sr.len]; simp [Places.snoc]
      | _ => rw [hx'] at hx; cases hx
    · exact hn _ _ ⟨φ, _, h.put o.dst hx, hk⟩
  · rename_i e ho
    exact wp_does h (by simp only [execOp, ho]) (aAlloc_ok h.sr h.hKl hk) fin
  · rename_i e x ho
    exact wp_does h (by simp only [execOp, ho]) (aBox_ok h.sr h.hKl (h.sr.ev x) hk) fin
  · rename_i t parts ho
    obtain ⟨p1, p2⟩ := parts_ok h.sr parts
    exact wp_does h (by simp only [execOp, ho]) (aBuild_ok h.sr p1 p2 hk) fin
  · rename_i t len parts ho
    obtain ⟨p1, p2⟩ := parts_ok h.sr parts
    exact wp_does h (by simp only [execOp, ho]) (aBuildSlice_ok h.sr h.hKl p1 p2 hk) fin
  · rename_i t l c ho
    exact wp_does h (by simp only [execOp, ho]) (aMake_ok h.sr h.hKl (h.sr.ev l) (h.sr.ev c) hk) fin
  · rename_i t p v ho
    obtain ⟨w', φ', s', h1, h2, h3, h4, h5, h6, h7⟩ := aStore_ok h.sr h.ap (h.sr.ev p) (h.sr.ev v) hk
    unfold Oper.wp execOp
    simp only [ho, Sem.run_bind, h1, Result.andThen_ok, Sem.run_pure]
    exact hn _ _ ⟨φ', _, h.next o.dst h2 (.un undef) h3 h4 h5 h6, h7⟩
  · rename_i t p ho
    obtain ⟨v, u, φ', s', h1, h2, h3, h4⟩ := aLoadO_ok h (h.sr.ev p) hk
    unfold Oper.wp execOp
    simp only [ho, Sem.run_bind, h1 w (Ext.refl w), Result.andThen_ok, Sem.run_pure]
    exact hn _ _ ⟨φ', _, h2.put o.dst h3, h4⟩
  · rename_i c ho
    split at hk
    · rename_i hc
      split at hk
      case h_2 => exact hk.elim
      rename_i x y t t' ha' ht'
      split at hk
      case isFalse => exact hk.elim
      rename_i e
      subst e
      have hargs : c.args = #[x, y] := by rw [← Array.toList_inj]; exact ha'
      have hty : c.argTypes = #[t', t'] := by rw [← Array.toList_inj]; exact ht'
      unfold aAppendO at hk
      split at hk
      · obtain ⟨s1, hop, hk⟩ := hk
        obtain ⟨φ1, hi, hm⟩ := h.opens hop
        refine wp_does hi ?_ (aAppend_ok (ty := o.type) hi.sr hi.ap hi.hKl ((h.sr.ev x).mv hm) ((h.sr.ev y).mv hm) hk) fin
        simp [execOp, ho, resolve, hc, hargs, hty, invoke, builtin]
      · refine wp_does h ?_ (aAppend_ok (ty := o.type) h.sr h.ap h.hKl (h.sr.ev x) (h.sr.ev y) hk) fin
        simp [execOp, ho, resolve, hc, hargs, hty, invoke, builtin]
    · rename_i f hc
      obtain ⟨e1, e2⟩ := evs_ok h.sr c.args
      obtain ⟨hent, hcall⟩ := aCall_ok (K := K) h.sr h.ap h.hKl e1 e2 hk.out
      unfold Oper.wp
      have hrun : (execOp a.eval o).run P w = .ok (.enter f (c.args.map a.eval)) w := by
        have h1 : ∀ ty, (resolve a.eval c ty).run P w = .ok { target := .fn (.func f) #[], args := c.args.map a.eval } w := fun ty => by
          unfold resolve
          simp only [hc]
          show (Deferred.ofValue (Value.func (.func f) #[] #[]) (c.args.map a.eval)).run P w = _
          simp [Deferred.ofValue]
        unfold execOp
        simp only [ho, Sem.run_bind, h1, Result.andThen_ok, invoke, Array.append_empty]
        exact hent _ _
      rw [hrun]
      refine hcall.mono ?_
      rintro e w' ⟨v, u, φ', s', rfl, h2, h3, h4, h5, h6, h7, h8⟩
      exact fin _ _ φ' s' u (h.next o.dst h2 h3 h4 h5 h6 h7) h8
    · exact aVal_wp h hk hn
  · exact aVal_wp h hk hn
end
end Go.Am
