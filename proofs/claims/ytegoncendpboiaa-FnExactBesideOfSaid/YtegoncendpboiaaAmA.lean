/- The abstract machine, part A: values, states, how a world reads as a state; what keeps a reading. Generic: no program is named. -/
import Derived.WalkKit
import Derived.Maps.AppendAt
import Derived.Deep.Quiet
namespace Go.Am
open Go.RowKit
variable {D : Nat → Prop}

inductive AV where
  | un
  | int (k : IntKind) (n : Int)
  | bool (b : Bool)
  | str (s : ByteArray)
  | nil
  | sl (c n : Nat) (cells : List AV)
  | rd (cells : List AV)
  | agg (cells : List AV)
  | tup (vs : List AV)
  | ref (t ver off n : Nat)
  | ptr (t ver off : Nat)
  | own (e : TypeId) (z n : Nat) (cells : List AV)
  deriving Inhabited

structure Row where
  ver : Nat
  ety : TypeId
  size : Nat
  cells : List AV

/-- A row with other cells; its parts stay as they are written. -/
def Row.putC (r : Row) (c : List AV) : Row :=
  match r with
  | ⟨v, e, z, _⟩ => ⟨v, e, z, c⟩
theorem Row.putC_eq (r : Row) (c : List AV) : r.putC c = { r with cells := c } := by cases r; rfl

structure St where
  env : List AV
  rows : List Row
  ctr : Nat
  low : Nat

/-- Where the rows lie; and all blocks that the frame has for itself. -/
structure Places where
  l : List (Option Nat)
  O : Nat → Prop

def Places.snoc (φ : Places) (ob : Option Nat) : Places := ⟨φ.l ++ [ob], fun b => φ.O b ∨ ob = some b⟩
def noPl : Places := ⟨[], fun _ => False⟩
theorem snoc_l (φ : Places) (ob : Option Nat) : (φ.snoc ob).l = φ.l ++ [ob] := rfl

def RefOk (w : World) (φ : Places) (r : Row) (t off n : Nat) (v : Value) : Prop :=
  (φ.l[t]? = some none ∧ v = .slice none 0 0 ∧ n = 0 ∧ off = 0) ∨
  (∃ g A cap cur, φ.l[t]? = some (some g) ∧ v = .slice A n cap ∧ n ≤ cap ∧ cap ≤ maxLen ∧ w.heap[g]? = some (.cells cur r.ety (0, 0)) ∧
    (off = 0 ∨ 0 < n → A = some ⟨g, off, none⟩) ∧ (off = 0 → cur.size = cap * r.size) ∧ off + n * r.size ≤ cur.size)

inductive VR (D : Nat → Prop) (w : World) (φ : Places) (rows : List Row) (ctr : Nat) : Value → AV → Prop
  | un (v : Value) : VR D w φ rows ctr v .un
  | int (k : IntKind) (n : Int) : VR D w φ rows ctr (.int k n) (.int k n)
  | bool (b : Bool) : VR D w φ rows ctr (.bool b) (.bool b)
  | str (s : ByteArray) : VR D w φ rows ctr (.string s) (.str s)
  | nil : VR D w φ rows ctr (.slice none 0 0) .nil
  | sl0 (A : Option Addr) (cap c : Nat) (hm : cap ≤ maxLen) : VR D w φ rows ctr (.slice A 0 cap) (.sl c 0 [])
  | sl (ad : Addr) (c n cap : Nat) (cells : List AV) (vs : List Value) (hs : ad.spot = none) (hF : ¬ φ.O ad.block) (hD : c = 1 → D ad.block) (hlt : ad.block < w.heap.size) (hn : n ≤ cap) (hm : cap ≤ maxLen)
      (hl : vs.length = cells.length) (hc : ∀ j, j < vs.length → w.cell? (ad.add j) = vs[j]?) (h1 : ∀ v ∈ vs, v.oneCell' = true)
      (hv : ∀ (j : Nat) (v : Value) (u : AV), vs[j]? = some v → cells[j]? = some u → VR D w φ rows ctr v u) : VR D w φ rows ctr (.slice (some ad) n cap) (.sl c n cells)
  | rd (ad : Addr) (cells : List AV) (vs : List Value) (hs : ad.spot = none) (hF : ¬ φ.O ad.block) (hlt : ad.block < w.heap.size)
      (hl : vs.length = cells.length) (hc : ∀ j, j < vs.length → w.cell? (ad.add j) = vs[j]?) (h1 : ∀ v ∈ vs, v.oneCell' = true)
      (hv : ∀ (j : Nat) (v : Value) (u : AV), vs[j]? = some v → cells[j]? = some u → VR D w φ rows ctr v u) : VR D w φ rows ctr (.pointer (some ad)) (.rd cells)
  | agg (cs : Array Value) (cells : List AV) (hl : cs.size = cells.length) (h1 : ∀ (j : Nat) (v : Value), cs[j]? = some v → v.oneCell' = true)
      (hv : ∀ (j : Nat) (v : Value) (u : AV), cs[j]? = some v → cells[j]? = some u → VR D w φ rows ctr v u) : VR D w φ rows ctr (.agg cs) (.agg cells)
  | tup (vs : Array Value) (us : List AV) (hl : vs.size = us.length)
      (hv : ∀ (j : Nat) (v : Value) (u : AV), vs[j]? = some v → us[j]? = some u → VR D w φ rows ctr v u) : VR D w φ rows ctr (.tuple vs) (.tup us)
  | ref (t ver off n : Nat) (v : Value) (hlt : ver < ctr) (h1 : v.oneCell' = true) (h : ∀ r, rows[t]? = some r → r.ver = ver → RefOk w φ r t off n v) : VR D w φ rows ctr v (.ref t ver off n)
  | ptr (t ver off : Nat) (v : Value) (hlt : ver < ctr) (h1 : v.oneCell' = true) (h : ∀ r, rows[t]? = some r → r.ver = ver → ∃ g, φ.l[t]? = some (some g) ∧ v = .pointer (some ⟨g, off, none⟩)) : VR D w φ rows ctr v (.ptr t ver off)

/-- The blocks that a cell has for itself, each with the way to it. -/
abbrev Foot := List Nat → Nat → Prop
def noFoot : Foot := fun _ _ => False
def rootFoot (g : Nat) (F : Nat → Foot) : Foot := fun p b =>
  match p with
  | [] => b = g
  | j :: p => F j p b
def rowFoot (F : Nat → Foot) : Foot := fun p b =>
  match p with
  | [] => False
  | j :: p => F j p b

/-- A cell of a row: a value, or a slice that nobody else has. -/
inductive CV (D : Nat → Prop) (w : World) (φ : Places) (rows : List Row) (ctr : Nat) : Value → AV → Foot → Prop
  | vr (v : Value) (u : AV) (h : VR D w φ rows ctr v u) : CV D w φ rows ctr v u noFoot
  | own0 (e : TypeId) (z : Nat) (hz : z ≠ 0) : CV D w φ rows ctr (.slice none 0 0) (.own e z 0 []) noFoot
  | own (e : TypeId) (z n g cap : Nat) (cur : Array Value) (cells : List AV) (vs : Nat → Value) (F : Nat → Foot) (hz : z ≠ 0) (hg : w.heap[g]? = some (.cells cur e (0, 0))) (hs : cur.size = cap * z) (hn : n ≤ cap) (hm : cap ≤ maxLen) (hl : cells.length = n * z)
      (hv : ∀ (j : Nat) (u : AV), cells[j]? = some u → cur[j]? = some (vs j) ∧ (vs j).oneCell' = true) (hF : ∀ j : Nat, cells[j]? = none → F j = noFoot)
      (hc : ∀ (j : Nat) (u : AV), cells[j]? = some u → CV D w φ rows ctr (vs j) u (F j)) : CV D w φ rows ctr (.slice (some ⟨g, 0, none⟩) n cap) (.own e z n cells) (rootFoot g F)

/-- What a change of the world must leave so that every reading stays. -/
structure Mv (w : World) (φ : Places) (rows : List Row) (ctr : Nat) (w' : World) (φ' : Places) (rows' : List Row) (ctr' : Nat) : Prop where
  sz : w.heap.size ≤ w'.heap.size
  ct : ctr ≤ ctr'
  st : ∀ b : Nat, b < w.heap.size → ¬ φ.O b → ¬ φ'.O b ∧ w'.heap[b]? = w.heap[b]?
  rf : ∀ (t : Nat) (r' : Row), rows'[t]? = some r' → r'.ver < ctr → ∃ r : Row, rows[t]? = some r ∧ r.ver = r'.ver ∧ r.ety = r'.ety ∧ r.size = r'.size ∧ φ'.l[t]? = φ.l[t]? ∧
    ∀ (g : Nat) (cur : Array Value), φ.l[t]? = some (some g) → w.heap[g]? = some (.cells cur r.ety (0, 0)) → ∃ cur' : Array Value, w'.heap[g]? = some (.cells cur' r.ety (0, 0)) ∧ cur'.size = cur.size

theorem block_of_add (a : Addr) (n : Nat) : (a.add n).block = a.block := by unfold Addr.add; split <;> rfl

theorem VR.mv {w w' : World} {φ φ' : Places} {rows rows' : List Row} {ctr ctr' : Nat} {v : Value} {u : AV} (h : VR D w φ rows ctr v u) (m : Mv w φ rows ctr w' φ' rows' ctr') : VR D w' φ' rows' ctr' v u := by
  induction h with
  | un v => exact .un v
  | int k n => exact .int k n
  | bool b => exact .bool b
  | str s => exact .str s
  | nil => exact .nil
  | sl0 A cap c hm => exact .sl0 A cap c hm
  | sl ad c n cap cells vs hs hF hD hlt hn hm hl hc h1 hv ih =>
    obtain ⟨h2, h3⟩ := m.st _ hlt hF
    exact .sl ad c n cap cells vs hs h2 hD (Nat.lt_of_lt_of_le hlt m.sz) hn hm hl (fun j hj => (World.cell?_of_block (by rw [block_of_add]; exact h3)).trans (hc j hj)) h1 ih
  | rd ad cells vs hs hF hlt hl hc h1 hv ih =>
    obtain ⟨h2, h3⟩ := m.st _ hlt hF
    exact .rd ad cells vs hs h2 (Nat.lt_of_lt_of_le hlt m.sz) hl (fun j hj => (World.cell?_of_block (by rw [block_of_add]; exact h3)).trans (hc j hj)) h1 ih
  | agg cs cells hl h1 hv ih => exact .agg cs cells hl h1 ih
  | tup vs us hl hv ih => exact .tup vs us hl ih
  | ref t ver off n v hlt h1 h =>
    refine .ref t ver off n v (Nat.lt_of_lt_of_le hlt m.ct) h1 fun r' hr' hver => ?_
    obtain ⟨r, hr, e1, e2, e3, e4, hb⟩ := m.rf t r' hr' (by omega)
    rcases h r hr (by omega) with ⟨a1, a2, a3, a4⟩ | ⟨g, A, cap, cur, a1, a2, a3, a4, a5, a6, a7, a8⟩
    · exact .inl ⟨by rw [e4]; exact a1, a2, a3, a4⟩
    · obtain ⟨cur', b1, b2⟩ := hb g cur a1 a5
      exact .inr ⟨g, A, cap, cur', by rw [e4]; exact a1, a2, a3, a4, by rw [← e2]; exact b1, a6, by rw [b2, ← e3]; exact a7, by rw [b2, ← e3]; exact a8⟩
  | ptr t ver off v hlt h1 h =>
    refine .ptr t ver off v (Nat.lt_of_lt_of_le hlt m.ct) h1 fun r' hr' hver => ?_
    obtain ⟨r, hr, e1, e2, e3, e4, hb⟩ := m.rf t r' hr' (by omega)
    obtain ⟨g, a1, a2⟩ := h r hr (by omega)
    exact ⟨g, by rw [e4]; exact a1, a2⟩

theorem CV.mv {w w' : World} {φ φ' : Places} {rows rows' : List Row} {ctr ctr' : Nat} {v : Value} {u : AV} {F : Foot} (h : CV D w φ rows ctr v u F) (m : Mv w φ rows ctr w' φ' rows' ctr') (hb : ∀ p b, F p b → w'.heap[b]? = w.heap[b]?) : CV D w' φ' rows' ctr' v u F := by
  induction h with
  | vr v u h => exact .vr v u (h.mv m)
  | own0 e z hz => exact .own0 e z hz
  | own e z n g cap cur cells vs F hz hg hs hn hm hl hv hF hc ih =>
    exact .own e z n g cap cur cells vs F hz (by rw [hb [] g rfl]; exact hg) hs hn hm hl hv hF fun j u hu => ih j u hu fun p b h' => hb (j :: p) b h'

/-- The blocks of a cell lie in the heap. -/
theorem CV.heap {w : World} {φ : Places} {rows : List Row} {ctr : Nat} {v : Value} {u : AV} {F : Foot} (h : CV D w φ rows ctr v u F) : ∀ p b, F p b → b < w.heap.size := by
  induction h with
  | vr v u h => intro p b h'; exact h'.elim
  | own0 e z hz => intro p b h'; exact h'.elim
  | own e z n g cap cur cells vs F hz hg hs hn hm hl hv hF hc ih =>
    intro p b h'
    cases p with
    | nil =>
      have h' : b = g := h'
      subst h'
      rcases Nat.lt_or_ge b w.heap.size with h2 | h2
      · exact h2
      · rw [Array.getElem?_eq_none h2] at hg; cases hg
    | cons j p =>
      have h' : F j p b := h'
      cases e0 : cells[j]? with
      | none => rw [hF j e0] at h'; exact h'.elim
      | some u => exact ih j u e0 p b h'

def AV.isOwn : AV → Bool
  | .own _ _ _ _ => true
  | _ => false

theorem CV.vr_of {w : World} {φ : Places} {rows : List Row} {ctr : Nat} {v : Value} {u : AV} {F : Foot} (h : CV D w φ rows ctr v u F) (hu : u.isOwn = false) : VR D w φ rows ctr v u ∧ F = noFoot := by
  cases h with
  | vr v u h => exact ⟨h, rfl⟩
  | own0 e z hz => simp [AV.isOwn] at hu
  | own e z n g cap cur cells vs F hz hg hs hn hm hl hv hF hc => simp [AV.isOwn] at hu

/-- A row of cells reads as a list. -/
def RowOk (D : Nat → Prop) (w : World) (φ : Places) (rows : List Row) (ctr : Nat) (r : Row) (ob : Option Nat) (F : Nat → Foot) : Prop :=
  match ob with
  | none => r.cells = [] ∧ ∀ j, F j = noFoot
  | some g => ∃ cur : Array Value, w.heap[g]? = some (.cells cur r.ety (0, 0)) ∧ r.cells.length ≤ cur.size ∧ (∀ j : Nat, r.cells[j]? = none → F j = noFoot) ∧
      ∀ (j : Nat) (u : AV), r.cells[j]? = some u → ∃ v, cur[j]? = some v ∧ v.oneCell' = true ∧ CV D w φ rows ctr v u (F j)

/-- The blocks that the cells of rows have: each one once. -/
structure Apart (φ : Places) (ω : Nat → Nat → Foot) : Prop where
  uq : ∀ (t t' j j' : Nat) (p p' : List Nat) (b : Nat), ω t j p b → ω t' j' p' b → t = t' ∧ j = j' ∧ p = p'
  nf : ∀ (t j : Nat) (p : List Nat) (b : Nat), ω t j p b → some b ∉ φ.l
  oc : ∀ (t j : Nat) (p : List Nat) (b : Nat), ω t j p b → φ.O b

structure Nest (D : Nat → Prop) (w : World) (φ : Places) (rows : List Row) (ctr : Nat) (ω : Nat → Nat → Foot) : Prop where
  row : ∀ (t : Nat) (r : Row) (ob : Option Nat), rows[t]? = some r → φ.l[t]? = some ob → RowOk D w φ rows ctr r ob (ω t)
  out : ∀ t : Nat, rows[t]? = none → ∀ j, ω t j = noFoot
  ap : Apart φ ω

/-- The state of a frame, read. -/
structure SR (D : Nat → Prop) (w : World) (φ : Places) (env : List Value) (s : St) : Prop where
  dis : ∀ g : Nat, φ.O g → ¬ D g
  dlt : ∀ b : Nat, D b → b < w.heap.size
  len : φ.l.length = s.rows.length
  lo : s.low ≤ s.rows.length
  inj : ∀ (t t' g : Nat), φ.l[t]? = some (some g) → φ.l[t']? = some (some g) → t = t'
  lt : ∀ g : Nat, φ.O g → g < w.heap.size
  occ : ∀ g : Nat, some g ∈ φ.l → φ.O g
  ver : ∀ r ∈ s.rows, r.ver < s.ctr
  nest : ∃ ω, Nest D w φ s.rows s.ctr ω
  sz0 : ∀ (t : Nat) (r : Row), s.rows[t]? = some r → r.size = 0 → φ.l[t]? = some none
  elen : env.length = s.env.length
  env : ∀ (i : Nat) (v : Value) (u : AV), env[i]? = some v → s.env[i]? = some u → VR D w φ s.rows s.ctr v u

/-- Of the blocks in K nothing has turned since w0. -/
structure Keeps (K : Nat → Prop) (w0 w : World) : Prop where
  os : w.os = w0.os
  tape : w.tape = w0.tape
  output : w.output = w0.output
  size : w0.heap.size ≤ w.heap.size
  block : ∀ b, K b → w.heap[b]? = w0.heap[b]?

theorem Keeps.refl (K : Nat → Prop) (w : World) : Keeps K w w := ⟨rfl, rfl, rfl, Nat.le_refl _, fun _ _ => rfl⟩
theorem Keeps.trans {K K' : Nat → Prop} {a b c : World} (h : Keeps K a b) (h' : Keeps K' b c) (hK : ∀ x, K x → K' x) : Keeps K a c :=
  ⟨h'.os.trans h.os, h'.tape.trans h.tape, h'.output.trans h.output, Nat.le_trans h.size h'.size, fun x hx => (h'.block x (hK x hx)).trans (h.block x hx)⟩

/-- The rows that were handed in to be written: they stay where they are, and as long as they are. -/
structure Lows (low : Nat) (w : World) (φ : Places) (w' : World) (φ' : Places) : Prop where
  pl : ∀ i : Nat, i < low → φ'.l[i]? = φ.l[i]?
  bl : ∀ (i g : Nat) (cur : Array Value) (t : TypeId), i < low → φ.l[i]? = some (some g) → w.heap[g]? = some (.cells cur t (0, 0)) → ∃ cur' : Array Value, w'.heap[g]? = some (.cells cur' t (0, 0)) ∧ cur'.size = cur.size

theorem Lows.refl (low : Nat) (w : World) (φ : Places) : Lows low w φ w φ := ⟨fun _ _ => rfl, fun _ _ cur _ _ _ h => ⟨cur, h, rfl⟩⟩
theorem Lows.trans {low : Nat} {w w' w'' : World} {φ φ' φ'' : Places} (h : Lows low w φ w' φ') (h' : Lows low w' φ' w'' φ'') : Lows low w φ w'' φ'' :=
  ⟨fun i hi => (h'.pl i hi).trans (h.pl i hi), fun i g cur t hi hg hc => by
    obtain ⟨c1, a1, a2⟩ := h.bl i g cur t hi hg hc
    obtain ⟨c2, b1, b2⟩ := h'.bl i g c1 t hi (by rw [h.pl i hi]; exact hg) a1
    exact ⟨c2, b1, b2.trans a2⟩⟩
theorem Lows.new {low : Nat} {w w' : World} {φ φ' : Places} (hp : ∀ i : Nat, i < low → φ'.l[i]? = φ.l[i]?) (hb : ∀ b : Nat, b < w.heap.size → w'.heap[b]? = w.heap[b]?) : Lows low w φ w' φ' :=
  ⟨hp, fun i g cur t hi hg hc => ⟨cur, by
    have hlt : g < w.heap.size := by
      rcases Nat.lt_or_ge g w.heap.size with h | h
      · exact h
      · rw [Array.getElem?_eq_none h] at hc; cases hc
    rw [hb g hlt]; exact hc, rfl⟩⟩

/-- The invariant of a walk. -/
structure Inv (D : Nat → Prop) (K : Nat → Prop) (w0 : World) (φ0 φ : Places) (a : Act) (w : World) (s : St) : Prop where
  sr : SR D w φ a.tmps.toList s
  kp : Keeps K w0 w
  ap : ∀ g : Nat, φ.O g → ¬ K g
  lw : Lows s.low w0 φ0 w φ
  lc : s.low = φ0.l.length
  kl : ∀ b, K b → b < w0.heap.size
  df : a.defers = []

def constAV : Value → AV
  | .int k n => .int k n
  | .bool b => .bool b
  | .string s => .str s
  | .slice none 0 0 => .nil
  | _ => .un

theorem constAV_ok (w : World) (φ : Places) (rows : List Row) (ctr : Nat) (v : Value) : VR D w φ rows ctr v (constAV v) := by
  unfold constAV
  split
  · exact .int _ _
  · exact .bool _
  · exact .str _
  · exact .nil
  · exact .un _

def St.ev (s : St) : Operand → AV
  | .tmp t => s.env.getD t .un
  | .const v => constAV v
  | _ => .un

def St.put (s : St) (dst : Option Tmp) (u : AV) : St :=
  match dst with
  | some d => { s with env := s.env.set d u }
  | none => s

theorem SR.evTmp {w : World} {φ : Places} {a : Act} {s : St} (h : SR D w φ a.tmps.toList s) (t : Nat) : VR D w φ s.rows s.ctr (a.tmps.getD t undef) (s.env.getD t .un) := by
  have hl := h.elen
  by_cases ht : t < s.env.length
  · have ht' : t < a.tmps.toList.length := by omega
    have e1 : s.env[t]? = some (s.env.getD t .un) := by simp [List.getD, List.getElem?_eq_getElem ht]
    have e2 : a.tmps.toList[t]? = some (a.tmps.getD t undef) := by
      have : t < a.tmps.size := by simpa using ht'
      simp [Array.getD, this]
    exact h.env t _ _ e2 e1
  · have : s.env.getD t .un = .un := by
      have h0 : s.env[t]? = none := List.getElem?_eq_none (by omega)
      simp [List.getD, h0]
    rw [this]; exact .un _

theorem SR.ev {w : World} {φ : Places} {a : Act} {s : St} (h : SR D w φ a.tmps.toList s) (x : Operand) : VR D w φ s.rows s.ctr (a.eval x) (s.ev x) := by
  cases x with
  | tmp t => exact h.evTmp t
  | const v => exact constAV_ok _ _ _ _ v
  | global g => exact .un _
  | func f => exact .un _

theorem put_toList (a : Act) (dst : Option Tmp) (v : Value) : (a.put dst v).tmps.toList = match dst with | some d => a.tmps.toList.set d v | none => a.tmps.toList := by
  cases dst <;> simp [Act.put]

theorem put_defers (a : Act) (dst : Option Tmp) (v : Value) : (a.put dst v).defers = a.defers := by cases dst <;> rfl

theorem SR.put {w : World} {φ : Places} {a : Act} {s : St} (h : SR D w φ a.tmps.toList s) (dst : Option Tmp) {v : Value} {u : AV} (hv : VR D w φ s.rows s.ctr v u) : SR D w φ (a.put dst v).tmps.toList (s.put dst u) := by
  rw [put_toList]
  cases dst with
  | none => exact h
  | some d =>
    refine ⟨h.dis, h.dlt, h.len, h.lo, h.inj, h.lt, h.occ, h.ver, h.nest, h.sz0, by simpa [St.put] using h.elen, fun i x y hx hy => ?_⟩
    simp only [St.put] at hy ⊢
    rw [List.getElem?_set] at hx hy
    by_cases e : d = i
    · subst e
      simp only [if_true] at hx hy
      split at hx <;> split at hy <;> simp_all
    · simp only [e, if_false] at hx hy
      exact h.env i x y hx hy

theorem Inv.put {K : Nat → Prop} {w0 : World} {φ0 φ : Places} {a : Act} {w : World} {s : St} (h : Inv D K w0 φ0 φ a w s) (dst : Option Tmp) {v : Value} {u : AV} (hv : VR D w φ s.rows s.ctr v u) : Inv D K w0 φ0 φ (a.put dst v) w (s.put dst u) :=
  ⟨h.sr.put dst hv, h.kp, h.ap, by cases dst <;> exact h.lw, by cases dst <;> exact h.lc, h.kl, by rw [put_defers]; exact h.df⟩

/-- The world has changed, the frame not: what is asked. -/
theorem SR.mv {w w' : World} {φ φ' : Places} {env : List Value} {s s' : St} (h : SR D w φ env s) (m : Mv w φ s.rows s.ctr w' φ' s'.rows s'.ctr) (he : s'.env = s.env)
    (len : φ'.l.length = s'.rows.length) (lo : s'.low ≤ s'.rows.length) (inj : ∀ (t t' g : Nat), φ'.l[t]? = some (some g) → φ'.l[t']? = some (some g) → t = t') (lt : ∀ g, φ'.O g → g < w'.heap.size) (occ : ∀ g, some g ∈ φ'.l → φ'.O g) (ver : ∀ r ∈ s'.rows, r.ver < s'.ctr)
    (nest : ∃ ω, Nest D w' φ' s'.rows s'.ctr ω)
    (sz0 : ∀ (t : Nat) (r : Row), s'.rows[t]? = some r → r.size = 0 → φ'.l[t]? = some none) (dis : ∀ g : Nat, φ'.O g → ¬ D g) : SR D w' φ' env s' :=
  ⟨dis, fun b hb => Nat.lt_of_lt_of_le (h.dlt b hb) m.sz, len, lo, inj, lt, occ, ver, nest, sz0, by rw [he]; exact h.elen, fun i v u hv hu => (h.env i v u hv (by rw [← he]; exact hu)).mv m⟩

/-- The world has only got new blocks, or is other at blocks that nobody reads. -/
theorem Mv.same {w w' : World} {φ : Places} {rows : List Row} {ctr : Nat} (hs : w.heap.size ≤ w'.heap.size) (hb : ∀ b, b < w.heap.size → w'.heap[b]? = w.heap[b]?) : Mv w φ rows ctr w' φ rows ctr :=
  ⟨hs, Nat.le_refl _, fun b h h' => ⟨h', hb b h⟩, fun t r' hr _ => ⟨r', hr, rfl, rfl, rfl, rfl, fun g cur _ hg => ⟨cur, by
    have hlt : g < w.heap.size := by
      rcases Nat.lt_or_ge g w.heap.size with h | h
      · exact h
      · rw [Array.getElem?_eq_none h] at hg; cases hg
    rw [hb g hlt]; exact hg, rfl⟩⟩⟩

theorem RowOk.mv {w w' : World} {φ φ' : Places} {rows rows' : List Row} {ctr ctr' : Nat} {r : Row} {ob : Option Nat} {F : Nat → Foot} (h : RowOk D w φ rows ctr r ob F) (m : Mv w φ rows ctr w' φ' rows' ctr')
    (hb : ∀ g, ob = some g → w'.heap[g]? = w.heap[g]?) (hF : ∀ j p b, F j p b → w'.heap[b]? = w.heap[b]?) : RowOk D w' φ' rows' ctr' r ob F := by
  cases ob with
  | none => exact h
  | some g =>
    obtain ⟨cur, h1, h2, h3, h4⟩ := h
    exact ⟨cur, by rw [hb g rfl]; exact h1, h2, h3, fun j u hu => by
      obtain ⟨v, a1, a2, a3⟩ := h4 j u hu
      exact ⟨v, a1, a2, a3.mv m (hF j)⟩⟩

theorem SR.same {w w' : World} {φ : Places} {env : List Value} {s : St} (h : SR D w φ env s) (hs : w.heap.size ≤ w'.heap.size) (hb : ∀ b, b < w.heap.size → w'.heap[b]? = w.heap[b]?) : SR D w' φ env s := by
  have m : Mv w φ s.rows s.ctr w' φ s.rows s.ctr := Mv.same hs hb
  obtain ⟨ω, hn⟩ := h.nest
  refine h.mv m rfl h.len h.lo h.inj (fun g hg => Nat.lt_of_lt_of_le (h.lt g hg) hs) h.occ h.ver ⟨ω, fun t r ob hr hob => (hn.row t r ob hr hob).mv m (fun g hg => hb g (h.lt g (h.occ g ?_))) (fun j p b hF => hb b (h.lt b (hn.ap.oc t j p b hF))), hn.out, hn.ap⟩ h.sz0 h.dis
  subst hg
  exact List.mem_of_getElem? hob

theorem mem_getElem? {φ : Places} {g : Nat} (h : some g ∈ φ.l) : ∃ t : Nat, φ.l[t]? = some (some g) := List.getElem?_of_mem h

end Go.Am
