/- The abstract machine, part J: what a function owes (a contract), and a call of it. -/
import Derived.Test.YtmhpandbmoalaaaAmI
namespace Go.Am
open Go.RowKit
variable {D : Nat → Prop}

mutual
def AV.pure : AV → Bool
  | .ref _ _ _ _ => false
  | .ptr _ _ _ => false
  | .rd _ => false
  | .tup _ => false
  | .sl _ _ cs => pureL cs
  | .agg cs => pureL cs
  | .un => true
  | .int _ _ => true
  | .bool _ => true
  | .str _ => true
  | .nil => true
def pureL : List AV → Bool
  | [] => true
  | u :: us => u.pure && pureL us
end

mutual
def AV.prot : AV → Bool
  | .ref _ _ _ _ => false
  | .ptr _ _ _ => false
  | .rd _ => false
  | .tup _ => false
  | .sl c _ cs => c == 1 && protL cs
  | .agg cs => protL cs
  | .un => true
  | .int _ _ => true
  | .bool _ => true
  | .str _ => true
  | .nil => true
def protL : List AV → Bool
  | [] => true
  | u :: us => u.prot && protL us
end

mutual
/-- What may be handed back: its rows are among the new ones. -/
def AV.resOk (m : Nat) : AV → Bool
  | .ref t _ _ _ => decide (m ≤ t)
  | .ptr t _ _ => decide (m ≤ t)
  | .rd _ => false
  | .tup us => resOkL m us
  | .sl c _ cs => c == 1 && protL cs
  | .agg cs => resOkL m cs
  | .un => true
  | .int _ _ => true
  | .bool _ => true
  | .str _ => true
  | .nil => true
def resOkL (m : Nat) : List AV → Bool
  | [] => true
  | u :: us => u.resOk m && resOkL m us
end

mutual
def AV.shift (m base ctr : Nat) : AV → AV
  | .ref t _ off n => .ref (t - m + base) ctr off n
  | .ptr t _ off => .ptr (t - m + base) ctr off
  | .tup us => .tup (shiftL m base ctr us)
  | .agg cs => .agg (shiftL m base ctr cs)
  | .rd cs => .rd cs
  | .sl c n cs => .sl c n cs
  | .un => .un
  | .int k n => .int k n
  | .bool b => .bool b
  | .str b => .str b
  | .nil => .nil
def shiftL (m base ctr : Nat) : List AV → List AV
  | [] => []
  | u :: us => u.shift m base ctr :: shiftL m base ctr us
end

theorem pureL_get : ∀ {us : List AV} {j : Nat} {u : AV}, pureL us = true → us[j]? = some u → u.pure = true
  | [], j, u, _, h => by simp at h
  | x :: us, j, u, hp, h => by
    simp only [pureL, Bool.and_eq_true] at hp
    cases j with
    | zero => simp at h; subst h; exact hp.1
    | succ j => exact pureL_get hp.2 (by simpa using h)

theorem protL_get : ∀ {us : List AV} {j : Nat} {u : AV}, protL us = true → us[j]? = some u → u.prot = true
  | [], j, u, _, h => by simp at h
  | x :: us, j, u, hp, h => by
    simp only [protL, Bool.and_eq_true] at hp
    cases j with
    | zero => simp at h; subst h; exact hp.1
    | succ j => exact protL_get hp.2 (by simpa using h)

theorem resOkL_get {m : Nat} : ∀ {us : List AV} {j : Nat} {u : AV}, resOkL m us = true → us[j]? = some u → u.resOk m = true
  | [], j, u, _, h => by simp at h
  | x :: us, j, u, hp, h => by
    simp only [resOkL, Bool.and_eq_true] at hp
    cases j with
    | zero => simp at h; subst h; exact hp.1
    | succ j => exact resOkL_get hp.2 (by simpa using h)

theorem shiftL_get {m base ctr : Nat} : ∀ (us : List AV) (j : Nat), (shiftL m base ctr us)[j]? = (us[j]?).map (AV.shift m base ctr)
  | [], j => by simp [shiftL]
  | x :: us, j => by
    cases j with
    | zero => simp [shiftL]
    | succ j => simpa [shiftL] using shiftL_get us j
theorem shiftL_length {m base ctr : Nat} : ∀ (us : List AV), (shiftL m base ctr us).length = us.length
  | [] => rfl
  | x :: us => by simp [shiftL, shiftL_length us]

section
variable {P : Program} {w : World} {φ : Places} {s : St} {env : List Value}

theorem VR.repure {rows : List Row} {ctr : Nat} {v : Value} {u : AV} (h : VR D w φ rows ctr v u) (hp : u.pure = true) {φ' : Places} {rows' : List Row} {ctr' : Nat} (hφ : ∀ b, b < w.heap.size → some b ∉ φ → some b ∉ φ') : VR D w φ' rows' ctr' v u := by
  induction h with
  | un v => exact .un v
  | int k n => exact .int k n
  | bool b => exact .bool b
  | str s => exact .str s
  | nil => exact .nil
  | sl0 A cap c hm => exact .sl0 A cap c hm
  | sl ad c n cap cells vs hs hF hD hlt hn hm hl hc h1 hv ih =>
    simp only [AV.pure] at hp
    exact .sl ad c n cap cells vs hs (hφ _ hlt hF) hD hlt hn hm hl hc h1 (fun j v u hv' hu => ih j v u hv' hu (pureL_get hp hu))
  | rd ad cells vs hs hF hlt hl hc h1 hv ih => simp [AV.pure] at hp
  | agg cs cells hl h1 hv ih =>
    simp only [AV.pure] at hp
    exact .agg cs cells hl h1 (fun j v u hv' hu => ih j v u hv' hu (pureL_get hp hu))
  | tup vs us hl hv ih => simp [AV.pure] at hp
  | ref t ver off n v hlt h1 h => simp [AV.pure] at hp
  | ptr t ver off v hlt h1 h => simp [AV.pure] at hp

theorem VR.reprot {rows : List Row} {ctr : Nat} {v : Value} {u : AV} (h : VR D w φ rows ctr v u) (hp : u.prot = true) {φ' : Places} {rows' : List Row} {ctr' : Nat} (hφ : ∀ b, some b ∈ φ' → ¬ D b) : VR D w φ' rows' ctr' v u := by
  induction h with
  | un v => exact .un v
  | int k n => exact .int k n
  | bool b => exact .bool b
  | str s => exact .str s
  | nil => exact .nil
  | sl0 A cap c hm => exact .sl0 A cap c hm
  | sl ad c n cap cells vs hs hF hD hlt hn hm hl hc h1 hv ih =>
    simp only [AV.prot, Bool.and_eq_true, beq_iff_eq] at hp
    exact .sl ad c n cap cells vs hs (fun hm' => hφ _ hm' (hD hp.1)) hD hlt hn hm hl hc h1 (fun j v u hv' hu => ih j v u hv' hu (protL_get hp.2 hu))
  | rd ad cells vs hs hF hlt hl hc h1 hv ih => simp [AV.prot] at hp
  | agg cs cells hl h1 hv ih =>
    simp only [AV.prot] at hp
    exact .agg cs cells hl h1 (fun j v u hv' hu => ih j v u hv' hu (protL_get hp hu))
  | tup vs us hl hv ih => simp [AV.prot] at hp
  | ref t ver off n v hlt h1 h => simp [AV.prot] at hp
  | ptr t ver off v hlt h1 h => simp [AV.prot] at hp

/-- What is handed back, read by the caller: its rows lie behind the caller's. -/
theorem VR.reshift {rows : List Row} {v : Value} {u : AV} {m base ctr ctr' : Nat} {c0 : Nat} (h : VR D w φ rows c0 v u) (hp : u.resOk m = true) {φ' : Places} {rows' : List Row} (hφ : ∀ b, some b ∈ φ' → ¬ D b) (hc : ctr < ctr')
    (hr : ∀ (t : Nat) (r' : Row), m ≤ t → rows'[t - m + base]? = some r' → ∃ r, rows[t]? = some r ∧ r.ver = 0 ∧ r.ety = r'.ety ∧ r.size = r'.size ∧ φ'[t - m + base]? = φ[t]?) (hv0 : c0 = 1) : VR D w φ' rows' ctr' v (u.shift m base ctr) := by
  induction h with
  | un v => simp only [AV.shift]; exact .un v
  | int k n => simp only [AV.shift]; exact .int k n
  | bool b => simp only [AV.shift]; exact .bool b
  | str s => simp only [AV.shift]; exact .str s
  | nil => simp only [AV.shift]; exact .nil
  | sl0 A cap c hm => simp only [AV.shift]; exact .sl0 A cap c hm
  | sl ad c n cap cells vs hs hF hD hlt hn hm hl hc' h1 hv ih =>
    simp only [AV.shift]
    exact (VR.sl (D := D) (w := w) (φ := φ) (rows := rows) (ctr := c0) ad c n cap cells vs hs hF hD hlt hn hm hl hc' h1 hv).reprot (by simpa [AV.prot, AV.resOk] using hp) hφ
  | rd ad cells vs hs hF hlt hl hc' h1 hv ih => simp [AV.resOk] at hp
  | agg cs cells hl h1 hv ih =>
    simp only [AV.resOk] at hp
    simp only [AV.shift]
    refine .agg cs _ (by rw [shiftL_length]; exact hl) h1 (fun j v u hv' hu => ?_)
    rw [shiftL_get, Option.map_eq_some_iff] at hu
    obtain ⟨u', hu', rfl⟩ := hu
    exact ih j v u' hv' hu' (resOkL_get hp hu')
  | tup vs us hl hv ih =>
    simp only [AV.resOk] at hp
    simp only [AV.shift]
    refine .tup vs _ (by rw [shiftL_length]; exact hl) (fun j v u hv' hu => ?_)
    rw [shiftL_get, Option.map_eq_some_iff] at hu
    obtain ⟨u', hu', rfl⟩ := hu
    exact ih j v u' hv' hu' (resOkL_get hp hu')
  | ref t ver off n v hlt h1 h =>
    simp only [AV.resOk, decide_eq_true_eq] at hp
    simp only [AV.shift]
    refine .ref _ _ _ _ _ hc h1 fun r' hr' _ => ?_
    obtain ⟨r, a1, a2, a3, a4, a5⟩ := hr t r' hp hr'
    rcases h r a1 (by omega) with ⟨b1, b2, b3, b4⟩ | ⟨g, A, cap, cur, b1, b2, b3, b4, b5, b6, b7, b8⟩
    · exact .inl ⟨by rw [a5]; exact b1, b2, b3, b4⟩
    · exact .inr ⟨g, A, cap, cur, by rw [a5]; exact b1, b2, b3, b4, by rw [← a3]; exact b5, b6, by rw [← a4]; exact b7, by rw [← a4]; exact b8⟩
  | ptr t ver off v hlt h1 h =>
    simp only [AV.resOk, decide_eq_true_eq] at hp
    simp only [AV.shift]
    refine .ptr _ _ _ _ hc h1 fun r' hr' _ => ?_
    obtain ⟨r, a1, a2, a3, a4, a5⟩ := hr t r' hp hr'
    obtain ⟨g, b1, b2⟩ := h r a1 (by omega)
    exact ⟨g, by rw [a5]; exact b1, b2⟩

/-- A value as a tree: rows of the call's own become slices that nobody writes. T: the rows that are handed in to be written. -/
def St.tree (s : St) (T : List Nat) : Nat → AV → Option AV
  | 0, _ => none
  | f + 1, u =>
    match u with
    | .nil => some (.sl 0 0 [])
    | .ref τ ver off n =>
      match s.rows[τ]? with
      | some r => if r.ver = ver ∧ off + n * r.size ≤ r.cells.length ∧ τ ∉ T then (((r.cells.drop off).take (n * r.size)).mapM (s.tree T f)).map (.sl 0 n) else none
      | none => none
    | .agg cs => (cs.mapM (s.tree T f)).map .agg
    | u => if u.pure = true then some u else none

theorem mapM_get {α β : Type} {g : α → Option β} : ∀ {l : List α} {l' : List β}, l.mapM g = some l' → l'.length = l.length ∧ ∀ (j : Nat) (b : β), l'[j]? = some b → ∃ a, l[j]? = some a ∧ g a = some b
  | [], l', h => by
    simp at h; subst h; exact ⟨rfl, fun j b hb => by simp at hb⟩
  | x :: l, l', h => by
    simp only [List.mapM_cons, Option.bind_eq_bind, Option.pure_def, Option.bind_eq_some_iff, Option.some.injEq] at h
    obtain ⟨y, hy, ys, hys, rfl⟩ := h
    obtain ⟨h1, h2⟩ := mapM_get hys
    refine ⟨by simp [h1], fun j b hb => ?_⟩
    cases j with
    | zero => simp at hb; subst hb; exact ⟨x, rfl, hy⟩
    | succ j =>
      obtain ⟨a, ha, hg⟩ := h2 j b (by simpa using hb)
      exact ⟨a, by simpa using ha, hg⟩

theorem SR.tree (h : SR D w φ env s) {T : List Nat} {φc : Places} (hT : ∀ g, some g ∈ φc → ∃ τ ∈ T, φ[τ]? = some (some g)) {rc : List Row} {cc : Nat} : ∀ (f : Nat) {v : Value} {u u' : AV}, VR D w φ s.rows s.ctr v u → s.tree T f u = some u' → VR D w φc rc cc v u' := by
  have hsub : ∀ b, b < w.heap.size → some b ∉ φ → some b ∉ φc := fun b _ hF hm => by
    obtain ⟨τ, _, h2⟩ := hT b hm
    exact hF (List.mem_of_getElem? h2)
  intro f
  induction f with
  | zero => intro v u u' hv ht; simp [St.tree] at ht
  | succ f ih =>
    intro v u u' hv ht
    have dflt : ∀ u0, u0.pure = true → u = u0 → u' = u0 → VR D w φc rc cc v u' := fun u0 hp e1 e2 => by
      subst e1; subst e2; exact hv.repure hp hsub
    unfold St.tree at ht
    split at ht
    · simp only [Option.some.injEq] at ht
      subst ht
      cases hv with
      | nil => exact .sl0 none 0 0 (Nat.zero_le _)
    · rename_i τ ver off n
      split at ht
      case h_2 => cases ht
      rename_i r hr
      split at ht
      case isFalse => cases ht
      rename_i hc
      obtain ⟨hver, hfit, hnT⟩ := hc
      rw [Option.map_eq_some_iff] at ht
      obtain ⟨cs, hcs, rfl⟩ := ht
      obtain ⟨m1, m2⟩ := mapM_get hcs
      cases hv with
      | ref _ _ _ _ _ hlt h1 hx =>
        rcases hx r hr hver with ⟨_, rfl, rfl, _⟩ | ⟨g, A, cap, cur, a1, rfl, a3, a4, a5, a6, a7, a8⟩
        · have : cs = [] := List.eq_nil_of_length_eq_zero (by rw [m1]; simp)
          subst this
          exact .sl0 none 0 0 (Nat.zero_le _)
        · by_cases hn : n = 0
          · subst hn
            have : cs = [] := List.eq_nil_of_length_eq_zero (by rw [m1]; simp)
            subst this
            exact .sl0 A cap 0 a4
          · have hA := a6 (.inr (by omega)); subst hA
            have hat : At D w φ s ⟨g, off, none⟩ ((r.cells.drop off).take (n * r.size)) := fun j u hu => by
              rw [List.getElem?_take] at hu
              split at hu
              · exact h.at_row hr a1 off j u hu
              · cases hu
            obtain ⟨vs, c1, c2, c3, c4⟩ := values_of hat
            refine .sl _ 0 n cap cs vs rfl (fun hm => ?_) (fun h0 => by omega) (lt_of_heap a5) a3 a4 (by rw [c1, m1]) (fun j hj => ?_) c3 (fun j x y hx' hy => ?_)
            · obtain ⟨τ', b1, b2⟩ := hT g hm
              exact hnT (by rw [h.inj τ τ' g a1 b2]; exact b1)
            · have : vs[j]? = some vs[j] := List.getElem?_eq_getElem hj
              rw [this]
              exact c2 j _ this
            · obtain ⟨a, ha, hg⟩ := m2 j y hy
              exact ih (c4 j x a hx' ha) hg
    · rename_i cs
      rw [Option.map_eq_some_iff] at ht
      obtain ⟨cs', hcs, rfl⟩ := ht
      obtain ⟨m1, m2⟩ := mapM_get hcs
      cases hv with
      | agg vs _ hl h1 hv' =>
        refine .agg vs cs' (by rw [m1]; exact hl) h1 (fun j x y hx hy => ?_)
        obtain ⟨a, ha, hg⟩ := m2 j y hy
        exact ih (hv' j x a hx ha) hg
    · split at ht
      · rename_i hp
        simp only [Option.some.injEq] at ht
        exact dflt u hp rfl ht.symm
      · cases ht

end

def Enters (P : Program) (f : FuncId) : Prop := ∀ (args : Array Value) (w : World), (callFunc f args).run P w = .ok (.enter f args) w

structure CSpec where
  ι : Type
  inout : List Bool
  args : ι → List AV
  ins : ι → List Row
  pre : ι → Prop
  post : ι → AV → List (List AV) → List Row → Prop

def upd (ins : List Row) (ic : List (List AV)) : List Row := List.zipWith (fun r c => { r with cells := c }) ins ic

/-- What a call leaves. -/
def Left1 (D : Nat → Prop) (w : World) (φ : Places) (ins : List Row) (post : AV → List (List AV) → List Row → Prop) (e : Ending) (w' : World) : Prop :=
  ∃ (v : Value) (r : AV) (ic : List (List AV)) (news : List Row) (φ' : Places), e = .returned v ∧ post r ic news ∧ ic.length = ins.length ∧ (∀ c ∈ ic, protL c = true) ∧ (∀ n ∈ news, n.ver = 0 ∧ protL n.cells = true) ∧ r.resOk ins.length = true ∧
    Keeps (fun b => b < w.heap.size ∧ some b ∉ φ) w w' ∧ SR D w' (φ ++ φ') [v] ⟨[r], upd ins ic ++ news, 1, 0⟩ ∧ Lows ins.length w φ w' φ ∧ (∀ g, some g ∈ φ' → w.heap.size ≤ g)

def Sound (P : Program) (f : FuncId) (sp : CSpec) : Prop :=
  Enters P f ∧ ∀ x : sp.ι, sp.pre x → ∀ (D : Nat → Prop) (w : World) (vs : Array Value) (φ : Places), SR D w φ vs.toList ⟨sp.args x, sp.ins x, 1, (sp.ins x).length⟩ → (∀ r ∈ sp.ins x, r.ver = 0) →
    Calls P f vs w (Left1 D w φ (sp.ins x) (sp.post x))

def mutTags : List Bool → List AV → List Nat
  | _, [] => []
  | bs, u :: us =>
    match u with
    | .ptr τ _ _ => τ :: mutTags bs.tail us
    | .ref τ _ _ _ => if bs.headD false = true then τ :: mutTags bs.tail us else mutTags bs.tail us
    | _ => mutTags bs.tail us

def callArg (s : St) (T : List Nat) (b : Bool) (u : AV) : Option AV :=
  match u with
  | .ptr τ ver off =>
    match s.rows[τ]? with
    | some r => if r.ver = ver then some (.ptr (T.idxOf τ) 0 off) else none
    | none => none
  | .ref τ ver off n =>
    if b = true then
      match s.rows[τ]? with
      | some r => if r.ver = ver then some (.ref (T.idxOf τ) 0 off n) else none
      | none => none
    else s.tree T 4 (.ref τ ver off n)
  | u => s.tree T 4 u

def callArgs (s : St) (T : List Nat) : List Bool → List AV → Option (List AV)
  | _, [] => some []
  | bs, u :: us => (callArg s T (bs.headD false) u).bind fun u' => (callArgs s T bs.tail us).map (u' :: ·)

def insOf (s : St) (T T' : List Nat) : Option (List Row) := T'.mapM fun τ => (s.rows[τ]?).bind fun r => (r.cells.mapM (s.tree T 4)).map fun c => { r with ver := 0, cells := c }

def setRows : List Row → List Nat → List (List AV) → List Row
  | rows, τ :: T, c :: ic => setRows (rows.modify τ fun r => r.putC c) T ic
  | rows, _, _ => rows

def St.after (s : St) (T : List Nat) (ic : List (List AV)) (news : List Row) : St :=
  { s with rows := setRows s.rows T ic ++ news.map fun n => { n with ver := s.ctr }, ctr := s.ctr + 1 }

def aCall (P : Program) (f : FuncId) (s : St) (args : List AV) (k : AV → St → Prop) : Prop :=
  ∃ sp : CSpec, Sound P f sp ∧ ∃ T us ins, T = mutTags sp.inout args ∧ T.Nodup ∧ callArgs s T sp.inout args = some us ∧ insOf s T T = some ins ∧ ∃ x, us = sp.args x ∧ ins = sp.ins x ∧ sp.pre x ∧
    ∀ r ic news, sp.post x r ic news → ic.length = T.length → k (r.shift T.length s.rows.length s.ctr) (s.after T ic news)

theorem setRows_length : ∀ (T : List Nat) (ic : List (List AV)) (rows : List Row), (setRows rows T ic).length = rows.length
  | [], ic, rows => by cases ic <;> rfl
  | τ :: T, [], rows => rfl
  | τ :: T, c :: ic, rows => by rw [setRows, setRows_length]; simp

/-- The rows behind a call: same versions, kinds, sizes; other cells at most at T. -/
theorem setRows_get : ∀ (T : List Nat) (ic : List (List AV)) (rows : List Row) (t : Nat) (r' : Row), T.Nodup → ic.length = T.length → (setRows rows T ic)[t]? = some r' →
    ∃ r : Row, rows[t]? = some r ∧ r.ver = r'.ver ∧ r.ety = r'.ety ∧ r.size = r'.size ∧ ((t ∉ T ∧ r' = r) ∨ ∃ (i : Nat) (c : List AV), T[i]? = some t ∧ ic[i]? = some c ∧ r'.cells = c)
  | [], ic, rows, t, r', _, _, h => by
    have : setRows rows [] ic = rows := by cases ic <;> rfl
    rw [this] at h
    exact ⟨r', h, rfl, rfl, rfl, .inl ⟨by simp, rfl⟩⟩
  | τ :: T, [], rows, t, r', _, hl, h => by simp at hl
  | τ :: T, c :: ic, rows, t, r', hn, hl, h => by
    rw [setRows] at h
    simp only [Row.putC_eq] at h
    rw [List.nodup_cons] at hn
    obtain ⟨r1, a1, a2, a3, a4, a5⟩ := setRows_get T ic _ t r' hn.2 (by simpa using hl) h
    rw [List.getElem?_modify] at a1
    cases e0 : rows[t]? with
    | none => simp [e0] at a1
    | some r =>
      by_cases e : τ = t
      · subst e
        simp [e0] at a1
        subst a1
        refine ⟨r, rfl, a2, a3, a4, .inr ?_⟩
        rcases a5 with ⟨_, rfl⟩ | ⟨i, c', h1, h2, h3⟩
        · exact ⟨0, c, rfl, rfl, rfl⟩
        · exact ⟨i + 1, c', by simpa using h1, by simpa using h2, h3⟩
      · simp [e0, e] at a1
        subst a1
        refine ⟨r, rfl, a2, a3, a4, ?_⟩
        rcases a5 with ⟨h1, h2⟩ | ⟨i, c', h1, h2, h3⟩
        · exact .inl ⟨by simp only [List.mem_cons, not_or]; exact ⟨fun e' => e e'.symm, h1⟩, h2⟩
        · exact .inr ⟨i + 1, c', by simpa using h1, by simpa using h2, h3⟩

end Go.Am
