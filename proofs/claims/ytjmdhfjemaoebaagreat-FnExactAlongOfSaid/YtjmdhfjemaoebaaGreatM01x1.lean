import Derived.WalkKit
import Derived.Maps.AppendAt
import Derived.Deep.Quiet
namespace Go.Am
open Go.RowKit
variable {D : Nat → Prop}
inductive AV where
  | un
  | int (k : IntKind) (n : Int)
  | bool (b : Bool)
  | str (s : ByteArray)
  | nil
  | sl (c n : Nat) (cells : List AV)
  | rd (cells : List AV)
  | agg (cells : List AV)
  | tup (vs : List AV)
  | ref (t ver off n : Nat)
  | ptr (t ver off : Nat)
  | own (e : TypeId) (z n : Nat) (cells : List AV)
  deriving Inhabited
structure Row where
  ver : Nat
  ety : TypeId
  size : Nat
  cells : List AV
def Row.putC (r : Row) (c : List AV) : Row :=
  match r with
  | ⟨v, e, z, _⟩ => ⟨v, e, z, c⟩
theorem Row.putC_eq (r : Row) (c : List AV) : r.putC c = { r with cells := c } := by cases r; rfl
structure St where
  env : List AV
  rows : List Row
  ctr : Nat
  low : Nat
structure Places where
  l : List (Option Nat)
  O : Nat → Prop
def Places.snoc (φ : Places) (ob : Option Nat) : Places := ⟨φ.l ++ [ob], fun b => φ.O b ∨ ob = some b⟩
def noPl : Places := ⟨[], fun _ => False⟩
theorem snoc_l (φ : Places) (ob : Option Nat) : (φ.snoc ob).l = φ.l ++ [ob] := rfl
def RefOk (w : World) (φ : Places) (r : Row) (t off n : Nat) (v : Value) : Prop :=
  (φ.l[t]? = some none ∧ v = .slice none 0 0 ∧ n = 0 ∧ off = 0) ∨
  (∃ g A cap cur, φ.l[t]? = some (some g) ∧ v = .slice A n cap ∧ n ≤ cap ∧ cap ≤ maxLen ∧ w.heap[g]? = some (.cells cur r.ety (0, 0)) ∧
    (off = 0 ∨ 0 < n → A = some ⟨g, off, none⟩) ∧ (off = 0 → cur.size = cap * r.size) ∧ off + n * r.size ≤ cur.size)
inductive VR (D : Nat → Prop) (w : World) (φ : Places) (rows : List Row) (ctr : Nat) : Value → AV → Prop
  | un (v : Value) : VR D w φ rows ctr v .un
  | int (k : IntKind) (n : Int) : VR D w φ rows ctr (.int k n) (.int k n)
  | bool (b : Bool) : VR D w φ rows ctr (.bool b) (.bool b)
  | str (s : ByteArray) : VR D w φ rows ctr (.string s) (.str s)
  | nil : VR D w φ rows ctr (.slice none 0 0) .nil
  | sl0 (A : Option Addr) (cap c : Nat) (hm : cap ≤ maxLen) : VR D w φ rows ctr (.slice A 0 cap) (.sl c 0 [])
  | sl (ad : Addr) (c n cap : Nat) (cells : List AV) (vs : List Value) (hs : ad.spot = none) (hF : ¬ φ.O ad.block) (hD : c = 1 → D ad.block) (hlt : ad.block < w.heap.size) (hn : n ≤ cap) (hm : cap ≤ maxLen)
      (hl : vs.length = cells.length) (hc : ∀ j, j < vs.length → w.cell? (ad.add j) = vs[j]?) (h1 : ∀ v ∈ vs, v.oneCell' = true)
      (hv : ∀ (j : Nat) (v : Value) (u : AV), vs[j]? = some v → cells[j]? = some u → VR D w φ rows ctr v u) : VR D w φ rows ctr (.slice (some ad) n cap) (.sl c n cells)
  | rd (ad : Addr) (cells : List AV) (vs : List Value) (hs : ad.spot = none) (hF : ¬ φ.O ad.block) (hlt : ad.block < w.heap.size)
      (hl : vs.length = cells.length) (hc : ∀ j, j < vs.length → w.cell? (ad.add j) = vs[j]?) (h1 : ∀ v ∈ vs, v.oneCell' = true)
      (hv : ∀ (j : Nat) (v : Value) (u : AV), vs[j]? = some v → cells[j]? = some u → VR D w φ rows ctr v u) : VR D w φ rows ctr (.pointer (some ad)) (.rd cells)
  | agg (cs : Array Value) (cells : List AV) (hl : cs.size = cells.length) (h1 : ∀ (j : Nat) (v : Value), cs[j]? = some v → v.oneCell' = true)
      (hv : ∀ (j : Nat) (v : Value) (u : AV), cs[j]? = some v → cells[j]? = some u → VR D w φ rows ctr v u) : VR D w φ rows ctr (.agg cs) (.agg cells)
  | tup (vs : Array Value) (us : List AV) (hl : vs.size = us.length)
      (hv : ∀ (j : Nat) (v : Value) (u : AV), vs[j]? = some v → us[j]? = some u → VR D w φ rows ctr v u) : VR D w φ rows ctr (.tuple vs) (.tup us)
  | ref (t ver off n : Nat) (v : Value) (hlt : ver < ctr) (h1 : v.oneCell' = true) (h : ∀ r, rows[t]? = some r → r.ver = ver → RefOk w φ r t off n v) : VR D w φ rows ctr v (.ref t ver off n)
  | ptr (t ver off : Nat) (v : Value) (hlt : ver < ctr) (h1 : v.oneCell' = true) (h : ∀ r, rows[t]? = some r → r.ver = ver → ∃ g, φ.l[t]? = some (some g) ∧ v = .pointer (some ⟨g, off, none⟩)) : VR D w φ rows ctr v (.ptr t ver off)
abbrev Foot := List Nat → Nat → Prop
def noFoot : Foot := fun _ _ => False
def rootFoot (g : Nat) (F : Nat → Foot) : Foot := fun p b =>
  match p with
  | [] => b = g
  | j :: p => F j p b
inductive CV (D : Nat → Prop) (w : World) (φ : Places) (rows : List Row) (ctr : Nat) : Value → AV → Foot → Prop
  | vr (v : Value) (u : AV) (h : VR D w φ rows ctr v u) : CV D w φ rows ctr v u noFoot
  | own0 (e : TypeId) (z : Nat) (hz : z ≠ 0) : CV D w φ rows ctr (.slice none 0 0) (.own e z 0 []) noFoot
  | own (e : TypeId) (z n g cap : Nat) (cur : Array Value) (cells : List AV) (vs : Nat → Value) (F : Nat → Foot) (hz : z ≠ 0) (hg : w.heap[g]? = some (.cells cur e (0, 0))) (hs : cur.size = cap * z) (hn : n ≤ cap) (hm : cap ≤ maxLen) (hl : cells.length = n * z)
      (hv : ∀ (j : Nat) (u : AV), cells[j]? = some u → cur[j]? = some (vs j) ∧ (vs j).oneCell' = true) (hF : ∀ j : Nat, cells[j]? = none → F j = noFoot)
      (hc : ∀ (j : Nat) (u : AV), cells[j]? = some u → CV D w φ rows ctr (vs j) u (F j)) : CV D w φ rows ctr (.slice (some ⟨g, 0, none⟩) n cap) (.own e z n cells) (rootFoot g F)
structure Mv (w : World) (φ : Places) (rows : List Row) (ctr : Nat) (w' : World) (φ' : Places) (rows' : List Row) (ctr' : Nat) : Prop where
  sz : w.heap.size ≤ w'.heap.size
  ct : ctr ≤ ctr'
  st : ∀ b : Nat, b < w.heap.size → ¬ φ.O b → ¬ φ'.O b ∧ w'.heap[b]? = w.heap[b]?
  rf : ∀ (t : Nat) (r' : Row), rows'[t]? = some r' → r'.ver < ctr → ∃ r : Row, rows[t]? = some r ∧ r.ver = r'.ver ∧ r.ety = r'.ety ∧ r.size = r'.size ∧ φ'.l[t]? = φ.l[t]? ∧
    ∀ (g : Nat) (cur : Array Value), φ.l[t]? = some (some g) → w.heap[g]? = some (.cells cur r.ety (0, 0)) → ∃ cur' : Array Value, w'.heap[g]? = some (.cells cur' r.ety (0, 0)) ∧ cur'.size = cur.size
theorem block_of_add (a : Addr) (n : Nat) : (a.add n).block = a.block := by unfold Addr.add; split <;> rfl
theorem VR.mv {w w' : World} {φ φ' : Places} {rows rows' : List Row} {ctr ctr' : Nat} {v : Value} {u : AV} (h : VR D w φ rows ctr v u) (m : Mv w φ rows ctr w' φ' rows' ctr') : VR D w' φ' rows' ctr' v u := by
  induction h with
  | un v => exact .un v
  | int k n => exact .int k n
  | bool b => exact .bool b
  | str s => exact .str s
  | nil => exact .nil
  | sl0 A cap c hm => exact .sl0 A cap c hm
  | sl ad c n cap cells vs hs hF hD hlt hn hm hl hc h1 hv ih =>
    obtain ⟨h2, h3⟩ := m.st _ hlt hF
    exact .sl ad c n cap cells vs hs h2 hD (Nat.lt_of_lt_of_le hlt m.sz) hn hm hl (fun j hj => (World.cell?_of_block (by rw [block_of_add]; exact h3)).trans (hc j hj)) h1 ih
  | rd ad cells vs hs hF hlt hl hc h1 hv ih =>
    obtain ⟨h2, h3⟩ := m.st _ hlt hF
    exact .rd ad cells vs hs h2 (Nat.lt_of_lt_of_le hlt m.sz) hl (fun j hj => (World.cell?_of_block (by rw [block_of_add]; exact h3)).trans (hc j hj)) h1 ih
  | agg cs cells hl h1 hv ih => exact .agg cs cells hl h1 ih
  | tup vs us hl hv ih => exact .tup vs us hl ih
  | ref t ver off n v hlt h1 h =>
    refine .ref t ver off n v (Nat.lt_of_lt_of_le hlt m.ct) h1 fun r' hr' hver => ?_
    obtain ⟨r, hr, e1, e2, e3, e4, hb⟩ := m.rf t r' hr' (by omega)
    rcases h r hr (by omega) with ⟨a1, a2, a3, a4⟩ | ⟨g, A, cap, cur, a1, a2, a3, a4, a5, a6, a7, a8⟩
    · exact .inl ⟨by rw [e4]; exact a1, a2, a3, a4⟩
    · obtain ⟨cur', b1, b2⟩ := hb g cur a1 a5
      exact .inr ⟨g, A, cap, cur', by rw [e4]; exact a1, a2, a3, a4, by rw [← e2]; exact b1, a6, by rw [b2, ← e3]; exact a7, by rw [b2, ← e3]; exact a8⟩
  | ptr t ver off v hlt h1 h =>
    refine .ptr t ver off v (Nat.lt_of_lt_of_le hlt m.ct) h1 fun r' hr' hver => ?_
    obtain ⟨r, hr, e1, e2, e3, e4, hb⟩ := m.rf t r' hr' (by omega)
    obtain ⟨g, a1, a2⟩ := h r hr (by omega)
    exact ⟨g, by rw [e4]; exact a1, a2⟩
theorem CV.mv {w w' : World} {φ φ' : Places} {rows rows' : List Row} {ctr ctr' : Nat} {v : Value} {u : AV} {F : Foot} (h : CV D w φ rows ctr v u F) (m : Mv w φ rows ctr w' φ' rows' ctr') (hb : ∀ p b, F p b → w'.heap[b]? = w.heap[b]?) : CV D w' φ' rows' ctr' v u F := by
  induction h with
  | vr v u h => exact .vr v u (h.mv m)
  | own0 e z hz => exact .own0 e z hz
  | own e z n g cap cur cells vs F hz hg hs hn hm hl hv hF hc ih =>
    exact .own e z n g cap cur cells vs F hz (by rw [hb [] g rfl]; exact hg) hs hn hm hl hv hF fun j u hu => ih j u hu fun p b h' => hb (j :: p) b h'
theorem CV.heap {w : World} {φ : Places} {rows : List Row} {ctr : Nat} {v : Value} {u : AV} {F : Foot} (h : CV D w φ rows ctr v u F) : ∀ p b, F p b → b < w.heap.size := by
  induction h with
  | vr v u h => intro p b h'; exact h'.elim
  | own0 e z hz => intro p b h'; exact h'.elim
  | own e z n g cap cur cells vs F hz hg hs hn hm hl hv hF hc ih =>
    intro p b h'
    cases p with
    | nil =>
      have h' : b = g := h'
      subst h'
      rcases Nat.lt_or_ge b w.heap.size with h2 | h2
      · exact h2
      · rw [Array.getElem?_eq_none h2] at hg; cases hg
    | cons j p =>
      have h' : F j p b := h'
      cases e0 : cells[j]? with
      | none => rw [hF j e0] at h'; exact h'.elim
      | some u => exact ih j u e0 p b h'
def AV.isOwn : AV → Bool
  | .own _ _ _ _ => true
  | _ => false
theorem CV.vr_of {w : World} {φ : Places} {rows : List Row} {ctr : Nat} {v : Value} {u : AV} {F : Foot} (h : CV D w φ rows ctr v u F) (hu : u.isOwn = false) : VR D w φ rows ctr v u ∧ F = noFoot := by
  cases h with
  | vr v u h => exact ⟨h, rfl⟩
  | own0 e z hz => simp [AV.isOwn] at hu
  | own e z n g cap cur cells vs F hz hg hs hn hm hl hv hF hc => simp [AV.isOwn] at hu
def RowOk (D : Nat → Prop) (w : World) (φ : Places) (rows : List Row) (ctr : Nat) (r : Row) (ob : Option Nat) (F : Nat → Foot) : Prop :=
  match ob with
  | none => r.cells = [] ∧ ∀ j, F j = noFoot
  | some g => ∃ cur : Array Value, w.heap[g]? = some (.cells cur r.ety (0, 0)) ∧ r.cells.length ≤ cur.size ∧ (∀ j : Nat, r.cells[j]? = none → F j = noFoot) ∧
      ∀ (j : Nat) (u : AV), r.cells[j]? = some u → ∃ v, cur[j]? = some v ∧ v.oneCell' = true ∧ CV D w φ rows ctr v u (F j)
structure Apart (φ : Places) (ω : Nat → Nat → Foot) : Prop where
  uq : ∀ (t t' j j' : Nat) (p p' : List Nat) (b : Nat), ω t j p b → ω t' j' p' b → t = t' ∧ j = j' ∧ p = p'
  nf : ∀ (t j : Nat) (p : List Nat) (b : Nat), ω t j p b → some b ∉ φ.l
  oc : ∀ (t j : Nat) (p : List Nat) (b : Nat), ω t j p b → φ.O b
structure Nest (D : Nat → Prop) (w : World) (φ : Places) (rows : List Row) (ctr : Nat) (ω : Nat → Nat → Foot) : Prop where
  row : ∀ (t : Nat) (r : Row) (ob : Option Nat), rows[t]? = some r → φ.l[t]? = some ob → RowOk D w φ rows ctr r ob (ω t)
  out : ∀ t : Nat, rows[t]? = none → ∀ j, ω t j = noFoot
  ap : Apart φ ω
structure SR (D : Nat → Prop) (w : World) (φ : Places) (env : List Value) (s : St) : Prop where
  dis : ∀ g : Nat, φ.O g → ¬ D g
  dlt : ∀ b : Nat, D b → b < w.heap.size
  len : φ.l.length = s.rows.length
  lo : s.low ≤ s.rows.length
  inj : ∀ (t t' g : Nat), φ.l[t]? = some (some g) → φ.l[t']? = some (some g) → t = t'
  lt : ∀ g : Nat, φ.O g → g < w.heap.size
  occ : ∀ g : Nat, some g ∈ φ.l → φ.O g
  ver : ∀ r ∈ s.rows, r.ver < s.ctr
  nest : ∃ ω, Nest D w φ s.rows s.ctr ω
  sz0 : ∀ (t : Nat) (r : Row), s.rows[t]? = some r → r.size = 0 → φ.l[t]? = some none
  elen : env.length = s.env.length
  env : ∀ (i : Nat) (v : Value) (u : AV), env[i]? = some v → s.env[i]? = some u → VR D w φ s.rows s.ctr v u
structure Keeps (K : Nat → Prop) (w0 w : World) : Prop where
  os : w.os = w0.os
  tape : w.tape = w0.tape
  output : w.output = w0.output
  size : w0.heap.size ≤ w.heap.size
  block : ∀ b, K b → w.heap[b]? = w0.heap[b]?
theorem Keeps.refl (K : Nat → Prop) (w : World) : Keeps K w w := ⟨rfl, rfl, rfl, Nat.le_refl _, fun _ _ => rfl⟩
theorem Keeps.trans {K K' : Nat → Prop} {a b c : World} (h : Keeps K a b) (h' : Keeps K' b c) (hK : ∀ x, K x → K' x) : Keeps K a c :=
  ⟨h'.os.trans h.os, h'.tape.trans h.tape, h'.output.trans h.output, Nat.le_trans h.size h'.size, fun x hx => (h'.block x (hK x hx)).trans (h.block x hx)⟩
structure Lows (low : Nat) (w : World) (φ : Places) (w' : World) (φ' : Places) : Prop where
  pl : ∀ i : Nat, i < low → φ'.l[i]? = φ.l[i]?
  bl : ∀ (i g : Nat) (cur : Array Value) (t : TypeId), i < low → φ.l[i]? = some (some g) → w.heap[g]? = some (.cells cur t (0, 0)) → ∃ cur' : Array Value, w'.heap[g]? = some (.cells cur' t (0, 0)) ∧ cur'.size = cur.size
theorem Lows.refl (low : Nat) (w : World) (φ : Places) : Lows low w φ w φ := ⟨fun _ _ => rfl, fun _ _ cur _ _ _ h => ⟨cur, h, rfl⟩⟩
theorem Lows.trans {low : Nat} {w w' w'' : World} {φ φ' φ'' : Places} (h : Lows low w φ w' φ') (h' : Lows low w' φ' w'' φ'') : Lows low w φ w'' φ'' :=
  ⟨fun i hi => (h'.pl i hi).trans (h.pl i hi), fun i g cur t hi hg hc => by
    obtain ⟨c1, a1, a2⟩ := h.bl i g cur t hi hg hc
    obtain ⟨c2, b1, b2⟩ := h'.bl i g c1 t hi (by rw [h.pl i hi]; exact hg) a1
    exact ⟨c2, b1, b2.trans a2⟩⟩
theorem Lows.new {low : Nat} {w w' : World} {φ φ' : Places} (hp : ∀ i : Nat, i < low → φ'.l[i]? = φ.l[i]?) (hb : ∀ b : Nat, b < w.heap.size → w'.heap[b]? = w.heap[b]?) : Lows low w φ w' φ' :=
  ⟨hp, fun i g cur t hi hg hc => ⟨cur, by
    have hlt : g < w.heap.size := by
      rcases Nat.lt_or_ge g w.heap.size with h | h
      · exact h
      · rw [Array.getElem?_eq_none h] at hc; cases hc
    rw [hb g hlt]; exact hc, rfl⟩⟩
structure Inv (D : Nat → Prop) (K : Nat → Prop) (w0 : World) (φ0 φ : Places) (a : Act) (w : World) (s : St) : Prop where
  sr : SR D w φ a.tmps.toList s
  kp : Keeps K w0 w
  ap : ∀ g : Nat, φ.O g → ¬ K g
  lw : Lows s.low w0 φ0 w φ
  lc : s.low = φ0.l.length
  kl : ∀ b, K b → b < w0.heap.size
  df : a.defers = []
def constAV : Value → AV
  | .int k n => .int k n
  | .bool b => .bool b
  | .string s => .str s
  | .slice none 0 0 => .nil
  | _ => .un
theorem constAV_ok (w : World) (φ : Places) (rows : List Row) (ctr : Nat) (v : Value) : VR D w φ rows ctr v (constAV v) := by
  unfold constAV
  split
  · exact .int _ _
  · exact .bool _
  · exact .str _
  · exact .nil
  · exact .un _
def St.ev (s : St) : Operand → AV
  | .tmp t => s.env.getD t .un
  | .const v => constAV v
  | _ => .un
def St.put (s : St) (dst : Option Tmp) (u : AV) : St :=
  match dst with
  | some d => { s with env := s.env.set d u }
  | none => s
theorem SR.evTmp {w : World} {φ : Places} {a : Act} {s : St} (h : SR D w φ a.tmps.toList s) (t : Nat) : VR D w φ s.rows s.ctr (a.tmps.getD t undef) (s.env.getD t .un) := by
  have hl := h.elen
  by_cases ht : t < s.env.length
  · have ht' : t < a.tmps.toList.length := by omega
    have e1 : s.env[t]? = some (s.env.getD t .un) := by simp [List.getD, List.getElem?_eq_getElem ht]
    have e2 : a.tmps.toList[t]? = some (a.tmps.getD t undef) := by
      have : t < a.tmps.size := by simpa using ht'
      simp [Array.getD, this]
    exact h.env t _ _ e2 e1
  · have : s.env.getD t .un = .un := by
      have h0 : s.env[t]? = none := List.getElem?_eq_none (by omega)
      simp [List.getD, h0]
    rw [this]; exact .un _
theorem SR.ev {w : World} {φ : Places} {a : Act} {s : St} (h : SR D w φ a.tmps.toList s) (x : Operand) : VR D w φ s.rows s.ctr (a.eval x) (s.ev x) := by
  cases x with
  | tmp t => exact h.evTmp t
  | const v => exact constAV_ok _ _ _ _ v
  | global g => exact .un _
  | func f => exact .un _
theorem put_toList (a : Act) (dst : Option Tmp) (v : Value) : (a.put dst v).tmps.toList = match dst with | some d => a.tmps.toList.set d v | none => a.tmps.toList := by
  cases dst <;> simp [Act.put]
theorem put_defers (a : Act) (dst : Option Tmp) (v : Value) : (a.put dst v).defers = a.defers := by cases dst <;> rfl
theorem SR.put {w : World} {φ : Places} {a : Act} {s : St} (h : SR D w φ a.tmps.toList s) (dst : Option Tmp) {v : Value} {u : AV} (hv : VR D w φ s.rows s.ctr v u) : SR D w φ (a.put dst v).tmps.toList (s.put dst u) := by
  rw [put_toList]
  cases dst with
  | none => exact h
  | some d =>
    refine ⟨h.dis, h.dlt, h.len, h.lo, h.inj, h.lt, h.occ, h.ver, h.nest, h.sz0, by simpa [St.put] using h.elen, fun i x y hx hy => ?_⟩
    simp only [St.put] at hy ⊢
    rw [List.getElem?_set] at hx hy
    by_cases e : d = i
    · subst e
      simp only [if_true] at hx hy
      split at hx <;> split at hy <;> simp_all
    · simp only [e, if_false] at hx hy
      exact h.env i x y hx hy
theorem Inv.put {K : Nat → Prop} {w0 : World} {φ0 φ : Places} {a : Act} {w : World} {s : St} (h : Inv D K w0 φ0 φ a w s) (dst : Option Tmp) {v : Value} {u : AV} (hv : VR D w φ s.rows s.ctr v u) : Inv D K w0 φ0 φ (a.put dst v) w (s.put dst u) :=
  ⟨h.sr.put dst hv, h.kp, h.ap, by cases dst <;> exact h.lw, by cases dst <;> exact h.lc, h.kl, by rw [put_defers]; exact h.df⟩
theorem SR.mv {w w' : World} {φ φ' : Places} {env : List Value} {s s' : St} (h : SR D w φ env s) (m : Mv w φ s.rows s.ctr w' φ' s'.rows s'.ctr) (he : s'.env = s.env)
    (len : φ'.l.length = s'.rows.length) (lo : s'.low ≤ s'.rows.length) (inj : ∀ (t t' g : Nat), φ'.l[t]? = some (some g) → φ'.l[t']? = some (some g) → t = t') (lt : ∀ g, φ'.O g → g < w'.heap.size) (occ : ∀ g, some g ∈ φ'.l → φ'.O g) (ver : ∀ r ∈ s'.rows, r.ver < s'.ctr)
    (nest : ∃ ω, Nest D w' φ' s'.rows s'.ctr ω)
    (sz0 : ∀ (t : Nat) (r : Row), s'.rows[t]? = some r → r.size = 0 → φ'.l[t]? = some none) (dis : ∀ g : Nat, φ'.O g → ¬ D g) : SR D w' φ' env s' :=
  ⟨dis, fun b hb => Nat.lt_of_lt_of_le (h.dlt b hb) m.sz, len, lo, inj, lt, occ, ver, nest, sz0, by rw [he]; exact h.elen, fun i v u hv hu => (h.env i v u hv (by rw [← he]; exact hu)).mv m⟩
theorem Mv.same {w w' : World} {φ : Places} {rows : List Row} {ctr : Nat} (hs : w.heap.size ≤ w'.heap.size) (hb : ∀ b, b < w.heap.size → w'.heap[b]? = w.heap[b]?) : Mv w φ rows ctr w' φ rows ctr :=
  ⟨hs, Nat.le_refl _, fun b h h' => ⟨h', hb b h⟩, fun t r' hr _ => ⟨r', hr, rfl, rfl, rfl, rfl, fun g cur _ hg => ⟨cur, by
    have hlt : g < w.heap.size := by
      rcases Nat.lt_or_ge g w.heap.size with h | h
      · exact h
      · rw [Array.getElem?_eq_none h] at hg; cases hg
    rw [hb g hlt]; exact hg, rfl⟩⟩⟩
theorem RowOk.mv {w w' : World} {φ φ' : Places} {rows rows' : List Row} {ctr ctr' : Nat} {r : Row} {ob : Option Nat} {F : Nat → Foot} (h : RowOk D w φ rows ctr r ob F) (m : Mv w φ rows ctr w' φ' rows' ctr')
    (hb : ∀ g, ob = some g → w'.heap[g]? = w.heap[g]?) (hF : ∀ j p b, F j p b → w'.heap[b]? = w.heap[b]?) : RowOk D w' φ' rows' ctr' r ob F := by
  cases ob with
  | none => exact h
  | some g =>
    obtain ⟨cur, h1, h2, h3, h4⟩ := h
    exact ⟨cur, by rw [hb g rfl]; exact h1, h2, h3, fun j u hu => by
      obtain ⟨v, a1, a2, a3⟩ := h4 j u hu
      exact ⟨v, a1, a2, a3.mv m (hF j)⟩⟩
theorem SR.same {w w' : World} {φ : Places} {env : List Value} {s : St} (h : SR D w φ env s) (hs : w.heap.size ≤ w'.heap.size) (hb : ∀ b, b < w.heap.size → w'.heap[b]? = w.heap[b]?) : SR D w' φ env s := by
  have m : Mv w φ s.rows s.ctr w' φ s.rows s.ctr := Mv.same hs hb
  obtain ⟨ω, hn⟩ := h.nest
  refine h.mv m rfl h.len h.lo h.inj (fun g hg => Nat.lt_of_lt_of_le (h.lt g hg) hs) h.occ h.ver ⟨ω, fun t r ob hr hob => (hn.row t r ob hr hob).mv m (fun g hg => hb g (h.lt g (h.occ g ?_))) (fun j p b hF => hb b (h.lt b (hn.ap.oc t j p b hF))), hn.out, hn.ap⟩ h.sz0 h.dis
  subst hg
  exact List.mem_of_getElem? hob
end Go.Am
namespace Go.Am
open Go.RowKit
variable {D : Nat → Prop}
def tsz (P : Program) (t : TypeId) : Option Nat := (P.info? t).map (·.size)
def isAggD : TypeDesc → Bool
  | .struct _ | .array _ _ => true
  | _ => false
def AV.cells : AV → List AV
  | .agg cs => cs
  | v => [v]
def forceN (n : Nat) (k : Nat → Prop) : Prop :=
  match n with
  | 0 => k 0
  | n + 1 => forceN n fun m => k (m + 1)
theorem forceN_eq : ∀ (n : Nat) (k : Nat → Prop), forceN n k = k n
  | 0, _ => rfl
  | n + 1, k => by unfold forceN; rw [forceN_eq n]
def forceV0 (u : AV) (k : AV → Prop) : Prop :=
  match u with
  | .un => k .un
  | .int j n => k (.int j n)
  | .bool b => k (.bool b)
  | .str b => k (.str b)
  | .nil => k .nil
  | .sl c n cs => k (.sl c n cs)
  | .rd cs => k (.rd cs)
  | .agg cs => k (.agg cs)
  | .tup us => k (.tup us)
  | .ref t v o n => forceN t fun t' => forceN v fun v' => k (.ref t' v' o n)
  | .ptr t v o => forceN t fun t' => forceN v fun v' => k (.ptr t' v' o)
  | .own e z n cs => k (.own e z n cs)
theorem forceV0_eq (u : AV) (k : AV → Prop) : forceV0 u k = k u := by
  cases u with
  | ref t v o n => simp only [forceV0, forceN_eq]
  | ptr t v o => simp only [forceV0, forceN_eq]
  | _ => rfl
def forceL (us : List AV) (k : List AV → Prop) : Prop :=
  match us with
  | [] => k []
  | u :: us => forceV0 u fun u' => forceL us fun us' => k (u' :: us')
theorem forceL_eq : ∀ (us : List AV) (k : List AV → Prop), forceL us k = k us
  | [], k => rfl
  | u :: us, k => by unfold forceL; rw [forceV0_eq, forceL_eq us]
def forceV1 (u : AV) (k : AV → Prop) : Prop :=
  match u with
  | .agg cs => forceL cs fun cs' => k (.agg cs')
  | u => forceV0 u k
theorem forceV1_eq (u : AV) (k : AV → Prop) : forceV1 u k = k u := by
  cases u with
  | agg cs => simp only [forceV1, forceL_eq]
  | _ => simp only [forceV1, forceV0_eq]
def forceL1 (us : List AV) (k : List AV → Prop) : Prop :=
  match us with
  | [] => k []
  | u :: us => forceV1 u fun u' => forceL1 us fun us' => k (u' :: us')
theorem forceL1_eq : ∀ (us : List AV) (k : List AV → Prop), forceL1 us k = k us
  | [], k => rfl
  | u :: us, k => by unfold forceL1; rw [forceV1_eq, forceL1_eq us]
def forceV (u : AV) (k : AV → Prop) : Prop :=
  match u with
  | .tup us => forceL1 us fun us' => k (.tup us')
  | u => forceV1 u k
theorem forceV_eq (u : AV) (k : AV → Prop) : forceV u k = k u := by
  cases u with
  | tup us => simp only [forceV, forceL1_eq]
  | _ => simp only [forceV, forceV1_eq]
def aSz (P : Program) (t : TypeId) (k : Nat → Prop) : Prop :=
  match tsz P t with
  | some 0 => False
  | some 1 => k 1
  | some (n + 2) => k (n + 2)
  | none => False
theorem aSz_out {P : Program} {t : TypeId} {k : Nat → Prop} (h : aSz P t k) : ∃ z, tsz P t = some z ∧ z ≠ 0 ∧ k z := by
  unfold aSz at h
  split at h
  · exact h.elim
  · rename_i e; exact ⟨1, e, by omega, h⟩
  · rename_i n e; exact ⟨_, e, by omega, h⟩
  · exact h.elim
def aRow (s : St) (τ ver : Nat) (k : Row → Prop) : Prop :=
  match s.rows[τ]? with
  | some r => if r.ver = ver then k r else False
  | none => False
theorem aRow_out {s : St} {τ ver : Nat} {k : Row → Prop} (h : aRow s τ ver k) : ∃ r, s.rows[τ]? = some r ∧ r.ver = ver ∧ k r := by
  unfold aRow at h
  split at h
  · rename_i r e
    split at h
    · rename_i e'; exact ⟨r, e, e', h⟩
    · exact h.elim
  · exact h.elim
def aGet (cells : List AV) (i : Nat) (k : AV → Prop) : Prop := ∃ u, cells[i]? = some u ∧ k u
theorem aGet_in {cells : List AV} {i : Nat} {k : AV → Prop} {u : AV} (h : cells[i]? = some u) (hk : k u) : aGet cells i k := ⟨u, h, hk⟩
def aIf (b : Bool) (x y : Prop) : Prop := (b = true → x) ∧ (b = false → y)
theorem aIf_t {x y : Prop} (h : x) : aIf true x y := ⟨fun _ => h, fun e => Bool.noConfusion e⟩
theorem aIf_f {x y : Prop} (h : y) : aIf false x y := ⟨fun e => Bool.noConfusion e, fun _ => h⟩
theorem aIf_in {b : Bool} {x y : Prop} (h : b = true → x) (h' : b = false → y) : aIf b x y := ⟨h, h'⟩
@[irreducible] def aTakeN (n : Nat) (cells : List AV) (k : AV → Prop) : Prop := n ≤ cells.length ∧ ((cells.take n).all fun u => !u.isOwn) = true ∧ k (.agg (cells.take n))
theorem takeN_in {n : Nat} {cells : List AV} {k : AV → Prop} (h : n ≤ cells.length ∧ ((cells.take n).all fun u => !u.isOwn) = true ∧ k (.agg (cells.take n))) : aTakeN n cells k := by unfold aTakeN; exact h
theorem takeN_out {n : Nat} {cells : List AV} {k : AV → Prop} (h : aTakeN n cells k) : n ≤ cells.length ∧ ((cells.take n).all fun u => !u.isOwn) = true ∧ k (.agg (cells.take n)) := by unfold aTakeN at h; exact h
def aPart (P : Program) (t : TypeId) (cells : List AV) (k : AV → Prop) : Prop :=
  match P.underlying t with
  | some d => if isAggD d = true then (aSz P t fun n => aTakeN n cells k) else aGet cells 0 fun u =>
    match u with
    | .own _ _ _ _ => False
    | u => k u
  | none => False
def aLoad (P : Program) (s : St) (t : TypeId) (p : AV) (k : AV → Prop) : Prop :=
  match p with
  | .rd cells => aPart P t cells k
  | .ptr τ ver off => aRow s τ ver fun r => aPart P t (r.cells.drop off) k
  | _ => False
def aIndexAddr (P : Program) (s : St) (t : TypeId) (x i : AV) (k : AV → Prop) : Prop :=
  match P.underlying t with
  | some (.slice e) =>
    match i with
    | .int _ i =>
      match x with
      | .sl _ n cells => aSz P e fun z => (0 ≤ i ∧ i < n) ∧ k (.rd (cells.drop (i.toNat * z)))
      | .ref τ ver off n => aSz P e fun z => aRow s τ ver fun _ => (0 ≤ i ∧ i < n) ∧ k (.ptr τ ver (off + i.toNat * z))
      | _ => False
    | _ => False
  | _ => False
def xorI (j : IntKind) (a b : Int) : Int := j.wrap ((BitVec.ofInt j.bits a ^^^ BitVec.ofInt j.bits b).toNat : Nat)
def andI (j : IntKind) (a b : Int) : Int := j.wrap ((BitVec.ofInt j.bits a &&& BitVec.ofInt j.bits b).toNat : Nat)
def orI (j : IntKind) (a b : Int) : Int := j.wrap ((BitVec.ofInt j.bits a ||| BitVec.ofInt j.bits b).toNat : Nat)
def aBin (P : Program) (op : BinOp) (t : TypeId) (x y : AV) (k : AV → Prop) : Prop :=
  match x, y with
  | .int j a, .int j' b => if j = j' then
    match op with
    | .add => k (.int j (j.wrap (a + b)))
    | .sub => k (.int j (j.wrap (a - b)))
    | .mul => k (.int j (j.wrap (a * b)))
    | .quo => b ≠ 0 ∧ k (.int j (j.wrap (a.tdiv b)))
    | .rem => b ≠ 0 ∧ k (.int j (a.tmod b))
    | .eql => k (.bool (a == b))
    | .neq => k (.bool (a != b))
    | .lss => k (.bool (decide (a < b)))
    | .leq => k (.bool (decide (a ≤ b)))
    | .gtr => k (.bool (decide (a > b)))
    | .geq => k (.bool (decide (a ≥ b)))
    | .xor => k (.int j (xorI j a b))
    | .and => k (.int j (andI j a b))
    | .or => k (.int j (orI j a b))
    | _ => False
    else False
  | .bool a, .bool b => P.underlying t = some .bool ∧
    match op with
    | .eql => k (.bool (a == b))
    | .neq => k (.bool (a != b))
    | _ => False
  | .str a, .str b =>
    match op with
    | .eql => k (.bool (a.toList == b.toList))
    | .neq => k (.bool (a.toList != b.toList))
    | .add => ((a.size + b.size : Nat) : Int) ≤ 9223372036854775807 ∧ k (.str (a ++ b))
    | _ => False
  | _, _ => False
def aUn (op : UnOp) (x : AV) (k : AV → Prop) : Prop :=
  match op, x with
  | .neg, .int j n => k (.int j (j.wrap (0 - n)))
  | .not, .bool b => k (.bool (!b))
  | _, _ => False
def aConv (P : Program) (dst : TypeId) (x : AV) (k : AV → Prop) : Prop :=
  match P.underlying dst with
  | some (.int j) =>
    match x with
    | .int _ n => k (.int j (j.wrap n))
    | _ => False
  | some .string =>
    match x with
    | .str s => k (.str s)
    | _ => False
  | _ => False
def aSlice (P : Program) (s : St) (t : TypeId) (x : AV) (lo hi : Option AV) (k : AV → Prop) : Prop :=
  match P.underlying t with
  | some (.slice e) =>
    match x with
    | .sl c n cells =>
      aSz P e fun z => n * z ≤ cells.length ∧
      match lo with
      | some (.int _ l) =>
        match hi with
        | some (.int _ h) => (0 ≤ l ∧ l ≤ h ∧ h ≤ n) ∧ k (.sl c (h.toNat - l.toNat) ((cells.drop (l.toNat * z)).take ((h.toNat - l.toNat) * z)))
        | none => (0 ≤ l ∧ l ≤ n) ∧ k (.sl c (n - l.toNat) ((cells.drop (l.toNat * z)).take ((n - l.toNat) * z)))
        | _ => False
      | none =>
        match hi with
        | some (.int _ h) => (0 ≤ h ∧ h ≤ n) ∧ k (.sl c h.toNat (cells.take (h.toNat * z)))
        | _ => False
      | _ => False
    | .ref τ ver off n =>
      match lo with
      | none =>
        match hi with
        | some (.int _ h) => aSz P e fun _ => aRow s τ ver fun _ => (0 ≤ h ∧ h ≤ n) ∧ k (.ref τ ver off h.toNat)
        | _ => False
      | some _ => False
    | _ => False
  | _ => False
structure Ext (w w' : World) : Prop where
  sz : w.heap.size ≤ w'.heap.size
  bl : ∀ b : Nat, b < w.heap.size → w'.heap[b]? = w.heap[b]?
theorem Ext.refl (w : World) : Ext w w := ⟨Nat.le_refl _, fun _ _ => rfl⟩
theorem Ext.trans {a b c : World} (h : Ext a b) (h' : Ext b c) : Ext a c := ⟨Nat.le_trans h.sz h'.sz, fun x hx => (h'.bl x (Nat.lt_of_lt_of_le hx h.sz)).trans (h.bl x hx)⟩
theorem Ext.cell {w w' : World} (h : Ext w w') {a : Addr} (ha : a.block < w.heap.size) : w'.cell? a = w.cell? a := World.cell?_of_block (h.bl _ ha)
theorem lt_of_heap {w : World} {g : Nat} {o : Obj} (h : w.heap[g]? = some o) : g < w.heap.size := by
  rcases Nat.lt_or_ge g w.heap.size with h' | h'
  · exact h'
  · rw [Array.getElem?_eq_none h'] at h; cases h
section
variable {P : Program} {w : World} {φ : Places} {s : St} {env : List Value}
theorem run_isAgg {t : TypeId} {d : TypeDesc} (h : P.underlying t = some d) (w : World) : (isAgg t).run P w = .ok (isAggD d) w := by
  unfold isAgg
  simp only [Sem.run_bind, run_underlying h, Result.andThen_ok]
  cases d <;> rfl
theorem run_tsz {t : TypeId} {n : Nat} (h : tsz P t = some n) (w : World) : (sizeOf t).run P w = .ok n w := by
  unfold tsz at h
  cases hi : P.info? t with
  | none => simp [hi] at h
  | some i => simp [hi] at h; simp [sizeOf, typeInfo, hi, h]
def At (D : Nat → Prop) (w : World) (φ : Places) (s : St) (ad : Addr) (cells : List AV) : Prop :=
  ∀ (j : Nat) (u : AV), cells[j]? = some u → ∃ v, (∀ w', Ext w w' → w'.cell? (ad.add j) = some v) ∧ v.oneCell' = true ∧ (u.isOwn = false → VR D w φ s.rows s.ctr v u)
theorem aPart_ok {t : TypeId} {ad : Addr} {cells : List AV} {k : AV → Prop} (h : At D w φ s ad cells) (hk : aPart P t cells k) :
    ∃ v u, (∀ w', Ext w w' → (loadVar t ad).run P w' = .ok v w') ∧ VR D w φ s.rows s.ctr v u ∧ k u := by
  unfold aPart at hk
  split at hk
  · rename_i d hd
    split at hk
    · rename_i hagg
      obtain ⟨n, hn, _, hk⟩ := aSz_out hk
      obtain ⟨hle, hown, hk⟩ := takeN_out hk
      have hch : ∀ j : Nat, ∃ v, ∀ u, (cells.take n)[j]? = some u → (∀ w', Ext w w' → w'.cell? (ad.add j) = some v) ∧ v.oneCell' = true ∧ VR D w φ s.rows s.ctr v u := by
        rw [List.all_eq_true] at hown
        intro j
        cases e : (cells.take n)[j]? with
        | none => exact ⟨undef, fun u hu => by cases hu⟩
        | some u =>
          have e' : cells[j]? = some u := by rw [List.getElem?_take] at e; split at e <;> simp_all
          obtain ⟨v, h1, h2, h3⟩ := h j u e'
          have h4 : u.isOwn = false := by simpa using hown u (List.mem_of_getElem? e)
          exact ⟨v, fun u' hu => by cases hu; exact ⟨h1, h2, h3 h4⟩⟩
      let f : Nat → Value := fun j => Classical.choose (hch j)
      have hf := fun j => Classical.choose_spec (hch j)
      have hlen : (cells.take n).length = n := by simp [List.length_take, Nat.min_eq_left hle]
      refine ⟨.agg (((List.range n).map f).toArray), .agg (cells.take n), fun w' hw => ?_, ?_, hk⟩
      · unfold loadVar
        have hl : (loadCells ad ((List.range n).map f).length).run P w' = .ok ((List.range n).map f).toArray w' := by
          refine run_loadCells_list (P := P) w' ad ((List.range n).map f) fun j v hv => ?_
          simp only [List.getElem?_map, Option.map_eq_some_iff] at hv
          obtain ⟨i, hi, rfl⟩ := hv
          have hij : j < n ∧ i = j := by
            rw [List.getElem?_eq_some_iff] at hi; obtain ⟨h1, h2⟩ := hi; simp at h1 h2; omega
          obtain ⟨hj, rfl⟩ := hij
          have hx : (cells.take n)[i]? = some ((cells.take n)[i]'(by omega)) := List.getElem?_eq_getElem _
          exact (hf i _ hx).1 w' hw
        simp only [List.length_map, List.length_range] at hl
        simp only [Sem.run_bind, run_isAgg hd, Result.andThen_ok, hagg, if_true, run_tsz hn, hl, Sem.run_pure]
      · refine .agg _ _ (by simp [hlen]) (fun j v hv => ?_) (fun j v u hv hu => ?_)
        · simp at hv
          obtain ⟨i, hi, rfl⟩ := hv
          have hij : j < n ∧ i = j := by
            rw [List.getElem?_eq_some_iff] at hi; obtain ⟨h1, h2⟩ := hi; simp at h1 h2; omega
          obtain ⟨hj, rfl⟩ := hij
          have hx : (cells.take n)[i]? = some ((cells.take n)[i]'(by omega)) := List.getElem?_eq_getElem _
          exact (hf i _ hx).2.1
        · simp at hv
          obtain ⟨i, hi, rfl⟩ := hv
          have hij : j < n ∧ i = j := by
            rw [List.getElem?_eq_some_iff] at hi; obtain ⟨h1, h2⟩ := hi; simp at h1 h2; omega
          obtain ⟨hj, rfl⟩ := hij
          exact (hf i _ hu).2.2
    · rename_i hagg
      obtain ⟨u, hu, hk⟩ := hk
      obtain ⟨v, h1, _, h3⟩ := h 0 u hu
      have hk : u.isOwn = false ∧ k u := by cases u <;> first | exact ⟨rfl, hk⟩ | exact hk.elim
      refine ⟨v, u, fun w' hw => ?_, h3 hk.1, hk.2⟩
      have : ad.add 0 = ad := by simp [Addr.add]
      have hv := h1 w' hw
      rw [this] at hv
      have hagg' : isAggD d = false := by simpa using hagg
      unfold loadVar
      simp only [Sem.run_bind, run_isAgg hd, Result.andThen_ok, hagg', run_load, hv, Bool.false_eq_true, if_false]
  · exact hk.elim
theorem add_mk (g o j : Nat) : (⟨g, o, none⟩ : Addr).add j = ⟨g, o + j, none⟩ := by
  unfold Addr.add
  by_cases h : j = 0 <;> simp [h]
theorem SR.at_row (h : SR D w φ env s) {t : Nat} {r : Row} {g : Nat} (hr : s.rows[t]? = some r) (hg : φ.l[t]? = some (some g)) (off : Nat) : At D w φ s ⟨g, off, none⟩ (r.cells.drop off) := by
  obtain ⟨ω, hn⟩ := h.nest
  obtain ⟨cur, h1, h2, _, h3⟩ := hn.row t r (some g) hr hg
  intro j u hu
  rw [List.getElem?_drop] at hu
  obtain ⟨v, a1, a2, a3⟩ := h3 _ _ hu
  refine ⟨v, fun w' hw => ?_, a2, fun ho => (a3.vr_of ho).1⟩
  rw [add_mk, hw.cell (lt_of_heap h1)]
  simp [World.cell?, h1, a1]
theorem At.of_rd {ad : Addr} {cells : List AV} (h : VR D w φ s.rows s.ctr (.pointer (some ad)) (.rd cells)) : At D w φ s ad cells := by
  cases h with
  | rd _ _ vs hs hF hlt hl hc h1 hv =>
    intro j u hu
    have hj : j < vs.length := by rw [hl]; exact (List.getElem?_eq_some_iff.1 hu).1
    have hx : vs[j]? = some vs[j] := List.getElem?_eq_getElem hj
    refine ⟨vs[j], fun w' hw => ?_, h1 _ (List.getElem_mem hj), fun _ => hv j _ _ hx hu⟩
    rw [hw.cell (by rw [block_of_add]; exact hlt), hc j hj, hx]
theorem VR.rd_inv {v : Value} {cells : List AV} (h : VR D w φ s.rows s.ctr v (.rd cells)) : ∃ ad, v = .pointer (some ad) := by cases h; exact ⟨_, rfl⟩
theorem aLoad_ok (h : SR D w φ env s) {t : TypeId} {p : AV} {pv : Value} {k : AV → Prop} (hp : VR D w φ s.rows s.ctr pv p) (hk : aLoad P s t p k) :
    ∃ v u, (∀ w', Ext w w' → (Instr.loadAt t pv).run P w' = .ok v w') ∧ VR D w φ s.rows s.ctr v u ∧ k u := by
  unfold aLoad at hk
  split at hk
  · obtain ⟨ad, rfl⟩ := hp.rd_inv
    obtain ⟨v, u, h1, h2, h3⟩ := aPart_ok (At.of_rd hp) hk
    refine ⟨v, u, fun w' hw => ?_, h2, h3⟩
    simp [Instr.loadAt, Instr.sureAddr, h1 w' hw]
  · rename_i τ ver off
    obtain ⟨r, hr, hver, hk⟩ := aRow_out hk
    cases hp with
    | ptr _ _ _ _ _ _ hx =>
      obtain ⟨g, hg, rfl⟩ := hx r hr hver
      obtain ⟨v, u, h1, h2, h3⟩ := aPart_ok (h.at_row hr hg off) hk
      refine ⟨v, u, fun w' hw => ?_, h2, h3⟩
      simp [Instr.loadAt, Instr.sureAddr, h1 w' hw]
  · exact hk.elim
end
end Go.Am
