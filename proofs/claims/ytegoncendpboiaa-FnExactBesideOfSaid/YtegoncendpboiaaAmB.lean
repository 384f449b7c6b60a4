/- The abstract machine, part B: the operations that yield a value and leave the world alone. -/
import Derived.Test.YtegoncendpboiaaAmA
namespace Go.Am
open Go.RowKit
variable {D : Nat → Prop}

def tsz (P : Program) (t : TypeId) : Option Nat := (P.info? t).map (·.size)
def isAggD : TypeDesc → Bool
  | .struct _ | .array _ _ => true
  | _ => false
def AV.cells : AV → List AV
  | .agg cs => cs
  | v => [v]

def forceN (n : Nat) (k : Nat → Prop) : Prop :=
  match n with
  | 0 => k 0
  | n + 1 => forceN n fun m => k (m + 1)
theorem forceN_eq : ∀ (n : Nat) (k : Nat → Prop), forceN n k = k n
  | 0, _ => rfl
  | n + 1, k => by unfold forceN; rw [forceN_eq n]

/-- A value, its head reckoned. -/
def forceV0 (u : AV) (k : AV → Prop) : Prop :=
  match u with
  | .un => k .un
  | .int j n => k (.int j n)
  | .bool b => k (.bool b)
  | .str b => k (.str b)
  | .nil => k .nil
  | .sl c n cs => k (.sl c n cs)
  | .rd cs => k (.rd cs)
  | .agg cs => k (.agg cs)
  | .tup us => k (.tup us)
  | .ref t v o n => forceN t fun t' => forceN v fun v' => k (.ref t' v' o n)
  | .ptr t v o => forceN t fun t' => forceN v fun v' => k (.ptr t' v' o)
  | .own e z n cs => k (.own e z n cs)
theorem forceV0_eq (u : AV) (k : AV → Prop) : forceV0 u k = k u := by
  cases u with
  | ref t v o n => simp only [forceV0, forceN_eq]
  | ptr t v o => simp only [forceV0, forceN_eq]
  | _ => rfl
def forceL (us : List AV) (k : List AV → Prop) : Prop :=
  match us with
  | [] => k []
  | u :: us => forceV0 u fun u' => forceL us fun us' => k (u' :: us')
theorem forceL_eq : ∀ (us : List AV) (k : List AV → Prop), forceL us k = k us
  | [], k => rfl
  | u :: us, k => by unfold forceL; rw [forceV0_eq, forceL_eq us]
/-- The same, with the parts of a struct. -/
def forceV1 (u : AV) (k : AV → Prop) : Prop :=
  match u with
  | .agg cs => forceL cs fun cs' => k (.agg cs')
  | u => forceV0 u k
theorem forceV1_eq (u : AV) (k : AV → Prop) : forceV1 u k = k u := by
  cases u with
  | agg cs => simp only [forceV1, forceL_eq]
  | _ => simp only [forceV1, forceV0_eq]
def forceL1 (us : List AV) (k : List AV → Prop) : Prop :=
  match us with
  | [] => k []
  | u :: us => forceV1 u fun u' => forceL1 us fun us' => k (u' :: us')
theorem forceL1_eq : ∀ (us : List AV) (k : List AV → Prop), forceL1 us k = k us
  | [], k => rfl
  | u :: us, k => by unfold forceL1; rw [forceV1_eq, forceL1_eq us]
/-- The same, with the parts of what comes at once. -/
def forceV (u : AV) (k : AV → Prop) : Prop :=
  match u with
  | .tup us => forceL1 us fun us' => k (.tup us')
  | u => forceV1 u k
theorem forceV_eq (u : AV) (k : AV → Prop) : forceV u k = k u := by
  cases u with
  | tup us => simp only [forceV, forceL1_eq]
  | _ => simp only [forceV, forceV1_eq]

/-- The size of a type, reckoned. -/
def aSz (P : Program) (t : TypeId) (k : Nat → Prop) : Prop :=
  match tsz P t with
  | some 0 => False
  | some 1 => k 1
  | some (n + 2) => k (n + 2)
  | none => False

theorem aSz_out {P : Program} {t : TypeId} {k : Nat → Prop} (h : aSz P t k) : ∃ z, tsz P t = some z ∧ z ≠ 0 ∧ k z := by
  unfold aSz at h
  split at h
  · exact h.elim
  · rename_i e; exact ⟨1, e, by omega, h⟩
  · rename_i n e; exact ⟨_, e, by omega, h⟩
  · exact h.elim

/-- A row that is still what it was. -/
def aRow (s : St) (τ ver : Nat) (k : Row → Prop) : Prop :=
  match s.rows[τ]? with
  | some r => if r.ver = ver then k r else False
  | none => False

theorem aRow_out {s : St} {τ ver : Nat} {k : Row → Prop} (h : aRow s τ ver k) : ∃ r, s.rows[τ]? = some r ∧ r.ver = ver ∧ k r := by
  unfold aRow at h
  split at h
  · rename_i r e
    split at h
    · rename_i e'; exact ⟨r, e, e', h⟩
    · exact h.elim
  · exact h.elim

def aGet (cells : List AV) (i : Nat) (k : AV → Prop) : Prop := ∃ u, cells[i]? = some u ∧ k u
theorem aGet_in {cells : List AV} {i : Nat} {k : AV → Prop} {u : AV} (h : cells[i]? = some u) (hk : k u) : aGet cells i k := ⟨u, h, hk⟩

/-- Both ways. -/
def aIf (b : Bool) (x y : Prop) : Prop := (b = true → x) ∧ (b = false → y)
theorem aIf_t {x y : Prop} (h : x) : aIf true x y := ⟨fun _ => h, fun e => Bool.noConfusion e⟩
theorem aIf_f {x y : Prop} (h : y) : aIf false x y := ⟨fun e => Bool.noConfusion e, fun _ => h⟩
theorem aIf_in {b : Bool} {x y : Prop} (h : b = true → x) (h' : b = false → y) : aIf b x y := ⟨h, h'⟩

/-- The first cells together, as a struct. -/
@[irreducible] def aTakeN (n : Nat) (cells : List AV) (k : AV → Prop) : Prop := n ≤ cells.length ∧ ((cells.take n).all fun u => !u.isOwn) = true ∧ k (.agg (cells.take n))
theorem takeN_in {n : Nat} {cells : List AV} {k : AV → Prop} (h : n ≤ cells.length ∧ ((cells.take n).all fun u => !u.isOwn) = true ∧ k (.agg (cells.take n))) : aTakeN n cells k := by unfold aTakeN; exact h
theorem takeN_out {n : Nat} {cells : List AV} {k : AV → Prop} (h : aTakeN n cells k) : n ≤ cells.length ∧ ((cells.take n).all fun u => !u.isOwn) = true ∧ k (.agg (cells.take n)) := by unfold aTakeN at h; exact h
/-- The part of a list of cells that a type takes. -/
def aPart (P : Program) (t : TypeId) (cells : List AV) (k : AV → Prop) : Prop :=
  match P.underlying t with
  | some d => if isAggD d = true then (aSz P t fun n => aTakeN n cells k) else aGet cells 0 fun u =>
    match u with
    | .own _ _ _ _ => False
    | u => k u
  | none => False

def aLoad (P : Program) (s : St) (t : TypeId) (p : AV) (k : AV → Prop) : Prop :=
  match p with
  | .rd cells => aPart P t cells k
  | .ptr τ ver off => aRow s τ ver fun r => aPart P t (r.cells.drop off) k
  | _ => False

def aIndexAddr (P : Program) (s : St) (t : TypeId) (x i : AV) (k : AV → Prop) : Prop :=
  match P.underlying t with
  | some (.slice e) =>
    match i with
    | .int _ i =>
      match x with
      | .sl _ n cells => aSz P e fun z => (0 ≤ i ∧ i < n) ∧ k (.rd (cells.drop (i.toNat * z)))
      | .ref τ ver off n => aSz P e fun z => aRow s τ ver fun _ => (0 ≤ i ∧ i < n) ∧ k (.ptr τ ver (off + i.toNat * z))
      | _ => False
    | _ => False
  | _ => False

def xorI (j : IntKind) (a b : Int) : Int := j.wrap ((BitVec.ofInt j.bits a ^^^ BitVec.ofInt j.bits b).toNat : Nat)
def andI (j : IntKind) (a b : Int) : Int := j.wrap ((BitVec.ofInt j.bits a &&& BitVec.ofInt j.bits b).toNat : Nat)
def orI (j : IntKind) (a b : Int) : Int := j.wrap ((BitVec.ofInt j.bits a ||| BitVec.ofInt j.bits b).toNat : Nat)
def aBin (P : Program) (op : BinOp) (t : TypeId) (x y : AV) (k : AV → Prop) : Prop :=
  match x, y with
  | .int j a, .int j' b => if j = j' then
    match op with
    | .add => k (.int j (j.wrap (a + b)))
    | .sub => k (.int j (j.wrap (a - b)))
    | .mul => k (.int j (j.wrap (a * b)))
    | .quo => b ≠ 0 ∧ k (.int j (j.wrap (a.tdiv b)))
    | .rem => b ≠ 0 ∧ k (.int j (a.tmod b))
    | .eql => k (.bool (a == b))
    | .neq => k (.bool (a != b))
    | .lss => k (.bool (decide (a < b)))
    | .leq => k (.bool (decide (a ≤ b)))
    | .gtr => k (.bool (decide (a > b)))
    | .geq => k (.bool (decide (a ≥ b)))
    | .xor => k (.int j (xorI j a b))
    | .and => k (.int j (andI j a b))
    | .or => k (.int j (orI j a b))
    | _ => False
    else False
  | .bool a, .bool b => P.underlying t = some .bool ∧
    match op with
    | .eql => k (.bool (a == b))
    | .neq => k (.bool (a != b))
    | _ => False
  | .str a, .str b =>
    match op with
    | .eql => k (.bool (a.toList == b.toList))
    | .neq => k (.bool (a.toList != b.toList))
    | .add => ((a.size + b.size : Nat) : Int) ≤ 9223372036854775807 ∧ k (.str (a ++ b))
    | _ => False
  | _, _ => False

def aUn (op : UnOp) (x : AV) (k : AV → Prop) : Prop :=
  match op, x with
  | .neg, .int j n => k (.int j (j.wrap (0 - n)))
  | .not, .bool b => k (.bool (!b))
  | _, _ => False

def aConv (P : Program) (dst : TypeId) (x : AV) (k : AV → Prop) : Prop :=
  match P.underlying dst with
  | some (.int j) =>
    match x with
    | .int _ n => k (.int j (j.wrap n))
    | _ => False
  | some .string =>
    match x with
    | .str s => k (.str s)
    | _ => False
  | _ => False

def aSlice (P : Program) (s : St) (t : TypeId) (x : AV) (lo hi : Option AV) (k : AV → Prop) : Prop :=
  match P.underlying t with
  | some (.slice e) =>
    match x with
    | .sl c n cells =>
      aSz P e fun z => n * z ≤ cells.length ∧
      match lo with
      | some (.int _ l) =>
        match hi with
        | some (.int _ h) => (0 ≤ l ∧ l ≤ h ∧ h ≤ n) ∧ k (.sl c (h.toNat - l.toNat) ((cells.drop (l.toNat * z)).take ((h.toNat - l.toNat) * z)))
        | none => (0 ≤ l ∧ l ≤ n) ∧ k (.sl c (n - l.toNat) ((cells.drop (l.toNat * z)).take ((n - l.toNat) * z)))
        | _ => False
      | none =>
        match hi with
        | some (.int _ h) => (0 ≤ h ∧ h ≤ n) ∧ k (.sl c h.toNat (cells.take (h.toNat * z)))
        | _ => False
      | _ => False
    | .ref τ ver off n =>
      match lo with
      | none =>
        match hi with
        | some (.int _ h) => aSz P e fun _ => aRow s τ ver fun _ => (0 ≤ h ∧ h ≤ n) ∧ k (.ref τ ver off h.toNat)
        | _ => False
      | some _ => False
    | _ => False
  | _ => False

/-- The world w' has all that w has. -/
structure Ext (w w' : World) : Prop where
  sz : w.heap.size ≤ w'.heap.size
  bl : ∀ b : Nat, b < w.heap.size → w'.heap[b]? = w.heap[b]?

theorem Ext.refl (w : World) : Ext w w := ⟨Nat.le_refl _, fun _ _ => rfl⟩
theorem Ext.trans {a b c : World} (h : Ext a b) (h' : Ext b c) : Ext a c := ⟨Nat.le_trans h.sz h'.sz, fun x hx => (h'.bl x (Nat.lt_of_lt_of_le hx h.sz)).trans (h.bl x hx)⟩
theorem Ext.cell {w w' : World} (h : Ext w w') {a : Addr} (ha : a.block < w.heap.size) : w'.cell? a = w.cell? a := World.cell?_of_block (h.bl _ ha)
theorem lt_of_heap {w : World} {g : Nat} {o : Obj} (h : w.heap[g]? = some o) : g < w.heap.size := by
  rcases Nat.lt_or_ge g w.heap.size with h' | h'
  · exact h'
  · rw [Array.getElem?_eq_none h'] at h; cases h

section
variable {P : Program} {w : World} {φ : Places} {s : St} {env : List Value}

theorem run_isAgg {t : TypeId} {d : TypeDesc} (h : P.underlying t = some d) (w : World) : (isAgg t).run P w = .ok (isAggD d) w := by
  unfold isAgg
  simp only [Sem.run_bind, run_underlying h, Result.andThen_ok]
  cases d <;> rfl

theorem run_tsz {t : TypeId} {n : Nat} (h : tsz P t = some n) (w : World) : (sizeOf t).run P w = .ok n w := by
  unfold tsz at h
  cases hi : P.info? t with
  | none => simp [hi] at h
  | some i => simp [hi] at h; simp [sizeOf, typeInfo, hi, h]

/-- Cells that lie behind an address, whatever comes later. -/
def At (D : Nat → Prop) (w : World) (φ : Places) (s : St) (ad : Addr) (cells : List AV) : Prop :=
  ∀ (j : Nat) (u : AV), cells[j]? = some u → ∃ v, (∀ w', Ext w w' → w'.cell? (ad.add j) = some v) ∧ v.oneCell' = true ∧ (u.isOwn = false → VR D w φ s.rows s.ctr v u)

theorem aPart_ok {t : TypeId} {ad : Addr} {cells : List AV} {k : AV → Prop} (h : At D w φ s ad cells) (hk : aPart P t cells k) :
    ∃ v u, (∀ w', Ext w w' → (loadVar t ad).run P w' = .ok v w') ∧ VR D w φ s.rows s.ctr v u ∧ k u := by
  unfold aPart at hk
  split at hk
  · rename_i d hd
    split at hk
    · rename_i hagg
      obtain ⟨n, hn, _, hk⟩ := aSz_out hk
      obtain ⟨hle, hown, hk⟩ := takeN_out hk
      have hch : ∀ j : Nat, ∃ v, ∀ u, (cells.take n)[j]? = some u → (∀ w', Ext w w' → w'.cell? (ad.add j) = some v) ∧ v.oneCell' = true ∧ VR D w φ s.rows s.ctr v u := by
        rw [List.all_eq_true] at hown
        intro j
        cases e : (cells.take n)[j]? with
        | none => exact ⟨undef, fun u hu => by cases hu⟩
        | some u =>
          have e' : cells[j]? = some u := by rw [List.getElem?_take] at e; split at e <;> simp_all
          obtain ⟨v, h1, h2, h3⟩ := h j u e'
          have h4 : u.isOwn = false := by simpa using hown u (List.mem_of_getElem? e)
          exact ⟨v, fun u' hu => by cases hu; exact ⟨h1, h2, h3 h4⟩⟩
      let f : Nat → Value := fun j => Classical.choose (hch j)
      have hf := fun j => Classical.choose_spec (hch j)
      have hlen : (cells.take n).length = n := by simp [List.length_take, Nat.min_eq_left hle]
      refine ⟨.agg (((List.range n).map f).toArray), .agg (cells.take n), fun w' hw => ?_, ?_, hk⟩
      · unfold loadVar
        have hl : (loadCells ad ((List.range n).map f).length).run P w' = .ok ((List.range n).map f).toArray w' := by
          refine run_loadCells_list (P := P) w' ad ((List.range n).map f) fun j v hv => ?_
          simp only [List.getElem?_map, Option.map_eq_some_iff] at hv
          obtain ⟨i, hi, rfl⟩ := hv
          have hij : j < n ∧ i = j := by
            rw [List.getElem?_eq_some_iff] at hi; obtain ⟨h1, h2⟩ := hi; simp at h1 h2; omega
          obtain ⟨hj, rfl⟩ := hij
          have hx : (cells.take n)[i]? = some ((cells.take n)[i]'(by omega)) := List.getElem?_eq_getElem _
          exact (hf i _ hx).1 w' hw
        simp only [List.length_map, List.length_range] at hl
        simp only [Sem.run_bind, run_isAgg hd, Result.andThen_ok, hagg, if_true, run_tsz hn, hl, Sem.run_pure]
      · refine .agg _ _ (by simp [hlen]) (fun j v hv => ?_) (fun j v u hv hu => ?_)
        · simp at hv
          obtain ⟨i, hi, rfl⟩ := hv
          have hij : j < n ∧ i = j := by
            rw [List.getElem?_eq_some_iff] at hi; obtain ⟨h1, h2⟩ := hi; simp at h1 h2; omega
          obtain ⟨hj, rfl⟩ := hij
          have hx : (cells.take n)[i]? = some ((cells.take n)[i]'(by omega)) := List.getElem?_eq_getElem _
          exact (hf i _ hx).2.1
        · simp at hv
          obtain ⟨i, hi, rfl⟩ := hv
          have hij : j < n ∧ i = j := by
            rw [List.getElem?_eq_some_iff] at hi; obtain ⟨h1, h2⟩ := hi; simp at h1 h2; omega
          obtain ⟨hj, rfl⟩ := hij
          exact (hf i _ hu).2.2
    · rename_i hagg
      obtain ⟨u, hu, hk⟩ := hk
      obtain ⟨v, h1, _, h3⟩ := h 0 u hu
      have hk : u.isOwn = false ∧ k u := by cases u <;> first | exact ⟨rfl, hk⟩ | exact hk.elim
      refine ⟨v, u, fun w' hw => ?_, h3 hk.1, hk.2⟩
      have : ad.add 0 = ad := by simp [Addr.add]
      have hv := h1 w' hw
      rw [this] at hv
      have hagg' : isAggD d = false := by simpa using hagg
      unfold loadVar
      simp only [Sem.run_bind, run_isAgg hd, Result.andThen_ok, hagg', run_load, hv, Bool.false_eq_true, if_false]
  · exact hk.elim

theorem add_mk (g o j : Nat) : (⟨g, o, none⟩ : Addr).add j = ⟨g, o + j, none⟩ := by
  unfold Addr.add
  by_cases h : j = 0 <;> simp [h]

theorem SR.at_row (h : SR D w φ env s) {t : Nat} {r : Row} {g : Nat} (hr : s.rows[t]? = some r) (hg : φ.l[t]? = some (some g)) (off : Nat) : At D w φ s ⟨g, off, none⟩ (r.cells.drop off) := by
  obtain ⟨ω, hn⟩ := h.nest
  obtain ⟨cur, h1, h2, _, h3⟩ := hn.row t r (some g) hr hg
  intro j u hu
  rw [List.getElem?_drop] at hu
  obtain ⟨v, a1, a2, a3⟩ := h3 _ _ hu
  refine ⟨v, fun w' hw => ?_, a2, fun ho => (a3.vr_of ho).1⟩
  rw [add_mk, hw.cell (lt_of_heap h1)]
  simp [World.cell?, h1, a1]

theorem At.of_rd {ad : Addr} {cells : List AV} (h : VR D w φ s.rows s.ctr (.pointer (some ad)) (.rd cells)) : At D w φ s ad cells := by
  cases h with
  | rd _ _ vs hs hF hlt hl hc h1 hv =>
    intro j u hu
    have hj : j < vs.length := by rw [hl]; exact (List.getElem?_eq_some_iff.1 hu).1
    have hx : vs[j]? = some vs[j] := List.getElem?_eq_getElem hj
    refine ⟨vs[j], fun w' hw => ?_, h1 _ (List.getElem_mem hj), fun _ => hv j _ _ hx hu⟩
    rw [hw.cell (by rw [block_of_add]; exact hlt), hc j hj, hx]

theorem VR.rd_inv {v : Value} {cells : List AV} (h : VR D w φ s.rows s.ctr v (.rd cells)) : ∃ ad, v = .pointer (some ad) := by cases h; exact ⟨_, rfl⟩

theorem aLoad_ok (h : SR D w φ env s) {t : TypeId} {p : AV} {pv : Value} {k : AV → Prop} (hp : VR D w φ s.rows s.ctr pv p) (hk : aLoad P s t p k) :
    ∃ v u, (∀ w', Ext w w' → (Instr.loadAt t pv).run P w' = .ok v w') ∧ VR D w φ s.rows s.ctr v u ∧ k u := by
  unfold aLoad at hk
  split at hk
  · obtain ⟨ad, rfl⟩ := hp.rd_inv
    obtain ⟨v, u, h1, h2, h3⟩ := aPart_ok (At.of_rd hp) hk
    refine ⟨v, u, fun w' hw => ?_, h2, h3⟩
    simp [Instr.loadAt, Instr.sureAddr, h1 w' hw]
  · rename_i τ ver off
    obtain ⟨r, hr, hver, hk⟩ := aRow_out hk
    cases hp with
    | ptr _ _ _ _ _ _ hx =>
      obtain ⟨g, hg, rfl⟩ := hx r hr hver
      obtain ⟨v, u, h1, h2, h3⟩ := aPart_ok (h.at_row hr hg off) hk
      refine ⟨v, u, fun w' hw => ?_, h2, h3⟩
      simp [Instr.loadAt, Instr.sureAddr, h1 w' hw]
  · exact hk.elim

end
end Go.Am
