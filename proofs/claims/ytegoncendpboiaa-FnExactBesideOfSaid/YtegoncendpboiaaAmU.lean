/- The abstract machine, part U: contracts over pairs of rows; arguments opened. -/
import Derived.Test.YtegoncendpboiaaAmR
namespace Go.Am
open Go.RowKit

theorem pureL_take (k : IntKind) (m : Nat) (zs : List Int) : pureL ((zs.map (AV.int k)).take m) = true := by rw [← List.map_take]; exact pureL_ints _ _
theorem pureL_cut (k : IntKind) (l m : Nat) (zs : List Int) : pureL (((zs.map (AV.int k)).drop l).take m) = true := by rw [← List.map_drop, ← List.map_take]; exact pureL_ints _ _
theorem pureL_pair (c d n m : Nat) (xs zs : List Int) : pureL [.sl c n (xs.map (.int .i64)), .sl d m (zs.map (.int .i64))] = true := by
  simp [pureL, AV.pure, pureL_ints]
abbrev rowL (t : TypeId) (zs : List Int) : Row := ⟨0, t, 1, zs.map (.int .i64)⟩
/-- Two new rows of numbers, in one struct. -/
def fnT {ι : Type} (t : TypeId) (args : ι → List AV) (pre : ι → Prop) (xs zs : ι → List Int) : CSpec :=
  { ι := ι, inout := [], args := args, ins := fun _ => [], pre := pre, post := fun x r ic news => ic = [] ∧ r = .agg [.ref 0 0 0 (xs x).length, .ref 1 0 0 (zs x).length] ∧ news = [rowL t (xs x), rowL t (zs x)] }
/-- The same, and a bool. -/
def fnTB {ι : Type} (t : TypeId) (args : ι → List AV) (pre : ι → Prop) (M : ι → List Int × List Int × Bool) : CSpec :=
  { ι := ι, inout := [], args := args, ins := fun _ => [], pre := pre, post := fun x r ic news => ic = [] ∧ r = .tup [.agg [.ref 0 0 0 (M x).1.length, .ref 1 0 0 (M x).2.1.length], .bool (M x).2.2] ∧ news = [rowL t (M x).1, rowL t (M x).2.1] }

theorem callT_in {P : Program} {f : FuncId} {ι : Type} {t : TypeId} {args : ι → List AV} {pre : ι → Prop} {xs zs : ι → List Int} (hs : Sound P f (fnT t args pre xs zs)) (x : ι) (hpre : pre x) {env : List AV} {rows : List Row} {ctr low : Nat} {k : AV → St → Prop}
    (hk : k (.agg [.ref rows.length ctr 0 (xs x).length, .ref (rows.length + 1) ctr 0 (zs x).length]) ⟨env, rows ++ [⟨ctr, t, 1, (xs x).map (.int .i64)⟩, ⟨ctr, t, 1, (zs x).map (.int .i64)⟩], ctr + 1, low⟩) :
    CallB P f ⟨env, rows, ctr, low⟩ (args x) k := callB_in (sp := fnT t args pre xs zs) hs rfl x rfl hpre (by
  rintro r news ⟨-, rfl, rfl⟩
  simpa [AV.back, backL, backT, backV, news_rows2, Nat.add_comm] using hk)
theorem callTB_in {P : Program} {f : FuncId} {ι : Type} {t : TypeId} {args : ι → List AV} {pre : ι → Prop} {M : ι → List Int × List Int × Bool} (hs : Sound P f (fnTB t args pre M)) (x : ι) (hpre : pre x) {env : List AV} {rows : List Row} {ctr low : Nat} {k : AV → St → Prop}
    (hk : k (.tup [.agg [.ref rows.length ctr 0 (M x).1.length, .ref (rows.length + 1) ctr 0 (M x).2.1.length], .bool (M x).2.2]) ⟨env, rows ++ [⟨ctr, t, 1, (M x).1.map (.int .i64)⟩, ⟨ctr, t, 1, (M x).2.1.map (.int .i64)⟩], ctr + 1, low⟩) :
    CallB P f ⟨env, rows, ctr, low⟩ (args x) k := callB_in (sp := fnTB t args pre M) hs rfl x rfl hpre (by
  rintro r news ⟨-, rfl, rfl⟩
  simpa [AV.back, backL, backT, backV, news_rows2, Nat.add_comm] using hk)

theorem retTe {env : List AV} {rows : List Row} {ctr τ1 τ2 v1 v2 n1 n2 : Nat} {t : TypeId} {xs ys xs' ys' : List Int} (hne : τ1 ≠ τ2) (h1 : rows[τ1]? = some ⟨v1, t, 1, xs.map (.int .i64)⟩) (h2 : rows[τ2]? = some ⟨v2, t, 1, ys.map (.int .i64)⟩)
    (e1 : n1 = xs.length) (e2 : n2 = ys.length) (hx : xs = xs') (hy : ys = ys') :
    RetB ⟨env, rows, ctr, 0⟩ [] (fun r ic news => ic = [] ∧ r = .agg [.ref 0 0 0 xs'.length, .ref 1 0 0 ys'.length] ∧ news = [rowL t xs', rowL t ys']) (.agg [.ref τ1 v1 0 n1, .ref τ2 v2 0 n2]) := by
  subst e1; subst e2; subst hx; subst hy
  refine retP1 (Q := fun r news => r = .agg [.ref 0 0 0 xs.length, .ref 1 0 0 ys.length] ∧ news = [rowL t xs, rowL t ys]) (L := [τ1, τ2]) (by simpa using hne) ?_ ?_ ⟨rfl, rfl⟩
  · simp [insOf, h1, h2, protL_ren (protL_ints .i64 xs), protL_ren (protL_ints .i64 ys)]
  · have : (τ1 == τ2) = false := by simpa using hne
    simp [AV.ren, renL, h1, h2, List.idxOf, List.findIdx_cons, this]
theorem retTB {env : List AV} {rows : List Row} {ctr τ1 τ2 v1 v2 n1 n2 : Nat} {t : TypeId} {xs ys : List Int} {b : Bool} {M : List Int × List Int × Bool} (hM : M = (xs, ys, b)) (hne : τ1 ≠ τ2) (h1 : rows[τ1]? = some ⟨v1, t, 1, xs.map (.int .i64)⟩) (h2 : rows[τ2]? = some ⟨v2, t, 1, ys.map (.int .i64)⟩)
    (e1 : n1 = xs.length) (e2 : n2 = ys.length) :
    RetB ⟨env, rows, ctr, 0⟩ [] (fun r ic news => ic = [] ∧ r = .tup [.agg [.ref 0 0 0 M.1.length, .ref 1 0 0 M.2.1.length], .bool M.2.2] ∧ news = [rowL t M.1, rowL t M.2.1]) (.tup [.agg [.ref τ1 v1 0 n1, .ref τ2 v2 0 n2], .bool b]) := by
  subst hM
  subst e1; subst e2
  refine retP1 (Q := fun r news => r = .tup [.agg [.ref 0 0 0 xs.length, .ref 1 0 0 ys.length], .bool b] ∧ news = [rowL t xs, rowL t ys]) (L := [τ1, τ2]) (by simpa using hne) ?_ ?_ ⟨rfl, rfl⟩
  · simp [insOf, h1, h2, protL_ren (protL_ints .i64 xs), protL_ren (protL_ints .i64 ys)]
  · have : (τ1 == τ2) = false := by simpa using hne
    simp [AV.ren, renL, h1, h2, List.idxOf, List.findIdx_cons, this]

theorem retT {env : List AV} {rows : List Row} {ctr τ1 τ2 v1 v2 n1 n2 : Nat} {t : TypeId} {xs ys : List Int} (hne : τ1 ≠ τ2) (h1 : rows[τ1]? = some ⟨v1, t, 1, xs.map (.int .i64)⟩) (h2 : rows[τ2]? = some ⟨v2, t, 1, ys.map (.int .i64)⟩)
    (e1 : n1 = xs.length) (e2 : n2 = ys.length) :
    RetB ⟨env, rows, ctr, 0⟩ [] (fun r ic news => ic = [] ∧ r = .agg [.ref 0 0 0 xs.length, .ref 1 0 0 ys.length] ∧ news = [rowL t xs, rowL t ys]) (.agg [.ref τ1 v1 0 n1, .ref τ2 v2 0 n2]) := retTe hne h1 h2 e1 e2 rfl rfl
/-- A call that writes into a struct's two rows of numbers, and answers a number. -/
def fnMT {ι : Type} (t : TypeId) (xs zs : ι → List Int) (m : ι → Int) (pre : ι → Prop) (r : ι → Int) (us vs : ι → List Int) : CSpec :=
  { ι := ι, inout := [true], args := fun x => [.agg [.ref 0 0 0 (xs x).length, .ref 1 0 0 (zs x).length], .int .i64 (m x)], ins := fun x => [⟨0, t, 1, (xs x).map (.int .i64)⟩, ⟨0, t, 1, (zs x).map (.int .i64)⟩], pre := pre,
    post := fun x u ic news => u = .int .i64 (r x) ∧ ic = [(us x).map (.int .i64), (vs x).map (.int .i64)] ∧ news = [] }
theorem callMT_in {P : Program} {f : FuncId} {ι : Type} {t : TypeId} {xs zs : ι → List Int} {m : ι → Int} {pre : ι → Prop} {r : ι → Int} {us vs : ι → List Int} (hs : Sound P f (fnMT t xs zs m pre r us vs)) (x : ι) (hpre : pre x) {env : List AV} {rows : List Row} {ctr low τ1 τ2 v1 v2 n1 n2 : Nat} {z : Int} {k : AV → St → Prop}
    (h1 : rows[τ1]? = some ⟨v1, t, 1, (xs x).map (.int .i64)⟩) (h2 : rows[τ2]? = some ⟨v2, t, 1, (zs x).map (.int .i64)⟩) (hne : τ1 ≠ τ2) (e1 : n1 = (xs x).length) (e2 : n2 = (zs x).length) (hz : z = m x)
    (hk : k (.int .i64 (r x)) ⟨env, setRows rows [τ1, τ2] [(us x).map (.int .i64), (vs x).map (.int .i64)], ctr + 1, low⟩) :
    CallG P f ⟨env, rows, ctr, low⟩ [.agg [.ref τ1 v1 0 n1, .ref τ2 v2 0 n2], .int .i64 z] k := by
  subst e1; subst e2; subst hz
  refine .inr ⟨[τ1, τ2], _, hs, [.agg [.ref 0 0 0 (xs x).length, .ref 1 0 0 (zs x).length], .int .i64 (m x)], [⟨0, t, 1, (xs x).map (.int .i64)⟩, ⟨0, t, 1, (zs x).map (.int .i64)⟩], by simpa using hne, ?_, ?_, x, rfl, rfl, hpre, ?_⟩
  · have hb : (τ1 == τ2) = false := by simpa using hne
    have ea : callArg ⟨env, rows, ctr, low⟩ [τ1, τ2] true (.agg [.ref τ1 v1 0 (xs x).length, .ref τ2 v2 0 (zs x).length]) = some (.agg [.ref 0 0 0 (xs x).length, .ref 1 0 0 (zs x).length]) := by
      simp [callArg, AV.ren, renL, h1, h2, List.idxOf, List.findIdx_cons, hb]
    show (callArg ⟨env, rows, ctr, low⟩ [τ1, τ2] true (.agg [.ref τ1 v1 0 (xs x).length, .ref τ2 v2 0 (zs x).length])).bind _ = _
    rw [ea]
    rfl
  · simp [insOf, h1, h2, protL_ren (protL_ints .i64 (xs x)), protL_ren (protL_ints .i64 (zs x))]
  · rintro u ic news ⟨rfl, rfl, rfl⟩ _
    show k (.int .i64 (r x)) ⟨env, setRows rows [τ1, τ2] [backL _ [τ1, τ2] ((us x).map (.int .i64)), backL _ [τ1, τ2] ((vs x).map (.int .i64))] ++ [], ctr + 1, low⟩
    rw [List.append_nil, protL_back (protL_ints _ _), protL_back (protL_ints _ _)]; exact hk
theorem retMT {env : List AV} {ctr : Nat} {t : TypeId} {xs zs us vs : List Int} {v1 v2 : Nat} {rest : List Row} {z z' : Int} (e : z = z') :
    RetB ⟨env, ⟨v1, t, 1, us.map (.int .i64)⟩ :: ⟨v2, t, 1, vs.map (.int .i64)⟩ :: rest, ctr, 2⟩ [⟨0, t, 1, xs.map (.int .i64)⟩, ⟨0, t, 1, zs.map (.int .i64)⟩] (fun u ic news => u = .int .i64 z' ∧ ic = [us.map (.int .i64), vs.map (.int .i64)] ∧ news = []) (.int .i64 z) := by
  refine RetB1.ret ⟨[], [⟨0, t, 1, us.map (.int .i64)⟩, ⟨0, t, 1, vs.map (.int .i64)⟩], .int .i64 z, [us.map (.int .i64), vs.map (.int .i64)], [], (show ([0, 1] : List Nat).Nodup by decide), ?_, rfl, rfl, rfl, by rw [e], rfl, rfl⟩
  show insOf _ [0, 1] [0, 1] = _
  simp [insOf, protL_ren (protL_ints .i64 us), protL_ren (protL_ints .i64 vs)]

/-- A number and a bool. -/
def fnIB {ι : Type} (args : ι → List AV) (pre : ι → Prop) (M : ι → Int × Bool) : CSpec :=
  { ι := ι, inout := [], args := args, ins := fun _ => [], pre := pre, post := fun x r ic news => ic = [] ∧ r = .tup [.int .i64 (M x).1, .bool (M x).2] ∧ news = [] }
theorem callIB_in {P : Program} {f : FuncId} {ι : Type} {args : ι → List AV} {pre : ι → Prop} {M : ι → Int × Bool} (hs : Sound P f (fnIB args pre M)) (x : ι) (hpre : pre x) {env : List AV} {rows : List Row} {ctr low : Nat} {k : AV → St → Prop}
    (hk : k (.tup [.int .i64 (M x).1, .bool (M x).2]) ⟨env, rows, ctr + 1, low⟩) : CallB P f ⟨env, rows, ctr, low⟩ (args x) k := callB_in (sp := fnIB args pre M) hs rfl x rfl hpre (by
  rintro r news ⟨-, rfl, rfl⟩
  simpa [AV.back, backL, St.news] using hk)
theorem retIB {env : List AV} {rows : List Row} {ctr : Nat} {v : Int} {b : Bool} {M : Int × Bool} (h : M = (v, b)) : RetB ⟨env, rows, ctr, 0⟩ [] (fun r ic news => ic = [] ∧ r = .tup [.int .i64 M.1, .bool M.2] ∧ news = []) (.tup [.int .i64 v, .bool b]) := by
  subst h
  exact retP1 (Q := fun r news => r = .tup [.int .i64 v, .bool b] ∧ news = []) (L := []) (by simp) rfl rfl ⟨rfl, rfl⟩

/-- Two rows that were handed in go back. -/
theorem retKeep2 {env : List AV} {ctr : Nat} {t : TypeId} {xs zs us vs : List Int} {v1 v2 n1 n2 : Nat} {rest : List Row} {b : Bool} {post : AV → List (List AV) → List Row → Prop} (hp : post (.tup [.agg [.ref 0 0 0 n1, .ref 1 0 0 n2], .bool b]) [us.map (.int .i64), vs.map (.int .i64)] []) :
    RetB ⟨env, ⟨v1, t, 1, us.map (.int .i64)⟩ :: ⟨v2, t, 1, vs.map (.int .i64)⟩ :: rest, ctr, 2⟩ [⟨0, t, 1, xs.map (.int .i64)⟩, ⟨0, t, 1, zs.map (.int .i64)⟩] post (.tup [.agg [.ref 0 v1 0 n1, .ref 1 v2 0 n2], .bool b]) := by
  refine RetB1.ret ⟨[], [⟨0, t, 1, us.map (.int .i64)⟩, ⟨0, t, 1, vs.map (.int .i64)⟩], _, [us.map (.int .i64), vs.map (.int .i64)], [], (show ([0, 1] : List Nat).Nodup by decide), ?_, ?_, rfl, rfl, hp⟩
  · show insOf _ [0, 1] [0, 1] = _
    simp [insOf, protL_ren (protL_ints .i64 us), protL_ren (protL_ints .i64 vs)]
  · show AV.ren _ [0, 1] _ = _
    simp [AV.ren, renL, List.idxOf, List.findIdx_cons]
/-- Two rows were handed in; two new ones go back. -/
theorem retNew2 {env : List AV} {ctr : Nat} {t : TypeId} {xs zs us vs ps qs : List Int} {v1 v2 n3 n4 τ3 τ4 v3 v4 : Nat} {rest : List Row} {b : Bool} {post : AV → List (List AV) → List Row → Prop} (hne : τ3 ≠ τ4) (h3 : rest[τ3]? = some ⟨v3, t, 1, ps.map (.int .i64)⟩) (h4 : rest[τ4]? = some ⟨v4, t, 1, qs.map (.int .i64)⟩)
    (hp : post (.tup [.agg [.ref 2 0 0 n3, .ref 3 0 0 n4], .bool b]) [us.map (.int .i64), vs.map (.int .i64)] [rowL t ps, rowL t qs]) :
    RetB ⟨env, ⟨v1, t, 1, us.map (.int .i64)⟩ :: ⟨v2, t, 1, vs.map (.int .i64)⟩ :: rest, ctr, 2⟩ [⟨0, t, 1, xs.map (.int .i64)⟩, ⟨0, t, 1, zs.map (.int .i64)⟩] post (.tup [.agg [.ref (τ3 + 1 + 1) v3 0 n3, .ref (τ4 + 1 + 1) v4 0 n4], .bool b]) := by
  have hb : (τ3 == τ4) = false := by simpa using hne
  refine RetB1.ret ⟨[τ3 + 1 + 1, τ4 + 1 + 1], [⟨0, t, 1, us.map (.int .i64)⟩, ⟨0, t, 1, vs.map (.int .i64)⟩, rowL t ps, rowL t qs], _, [us.map (.int .i64), vs.map (.int .i64)], [rowL t ps, rowL t qs], (show ([0, 1, τ3 + 1 + 1, τ4 + 1 + 1] : List Nat).Nodup by simpa using hne), ?_, ?_, rfl, rfl, hp⟩
  · show insOf _ [0, 1, τ3 + 1 + 1, τ4 + 1 + 1] [0, 1, τ3 + 1 + 1, τ4 + 1 + 1] = _
    simp [insOf, h3, h4, protL_ren (protL_ints .i64 us), protL_ren (protL_ints .i64 vs), protL_ren (protL_ints .i64 ps), protL_ren (protL_ints .i64 qs)]
  · show AV.ren _ [0, 1, τ3 + 1 + 1, τ4 + 1 + 1] _ = _
    simp [AV.ren, renL, h3, h4, List.idxOf, List.findIdx_cons, hb]

/-! Arguments of a law. -/
theorem flat_ints {P : Program} {e : TypeId} {k : IntKind} (he : P.underlying e = some (.int k)) : ∀ (es : List (List AV)), (∀ us ∈ es, CellsOk P e us) → ∃ zs : List Int, es.flatten = zs.map (.int k) ∧ zs.length = es.length ∧ ∀ z ∈ zs, (Lit.int k z).wf = true
  | [], _ => ⟨[], rfl, rfl, fun z h => by simp at h⟩
  | us :: es, h => by
    obtain ⟨zs, h1, h2, h3⟩ := flat_ints he es fun u hu => h u (List.mem_cons_of_mem _ hu)
    have hu := h us List.mem_cons_self
    cases hu with
    | int _ k' n ht hn =>
      rw [he] at ht; cases ht
      exact ⟨n :: zs, by simp [h1], by simp [h2], fun z hz => by
        rcases List.mem_cons.1 hz with rfl | hz
        · exact hn
        · exact h3 z hz⟩
    | bool _ b ht => rw [he] at ht; cases ht
    | str _ s ht hs => rw [he] at ht; cases ht
    | sl _ e' es' ht hz hes => rw [he] at ht; cases ht
    | struct _ fs us ht hl hf => rw [he] at ht; cases ht
theorem cellsInts {P : Program} {t e : TypeId} {k : IntKind} {us : List AV} (hu : P.underlying t = some (.slice e)) (he : P.underlying e = some (.int k)) (h : CellsOk P t us) : ∃ zs : List Int, us = [.sl 1 zs.length (zs.map (.int k))] ∧ ∀ z ∈ zs, (Lit.int k z).wf = true := by
  cases h with
  | int _ k' n ht hn => rw [hu] at ht; cases ht
  | bool _ b ht => rw [hu] at ht; cases ht
  | str _ s ht hs => rw [hu] at ht; cases ht
  | sl _ e' es ht hz hes =>
    rw [hu] at ht; cases ht
    obtain ⟨zs, h1, h2, h3⟩ := flat_ints he es hes
    exact ⟨zs, by rw [h1, h2], h3⟩
  | struct _ fs us ht hl hf => rw [hu] at ht; cases ht
theorem argRInts {P : Program} {t e : TypeId} {k : IntKind} {av : AV} (hu : P.underlying t = some (.slice e)) (he : P.underlying e = some (.int k)) (h : ArgR P t av) : ∃ zs : List Int, av = .sl 1 zs.length (zs.map (.int k)) ∧ ∀ z ∈ zs, (Lit.int k z).wf = true := by
  unfold ArgR at h
  rw [hu] at h
  obtain ⟨zs, h1, h2⟩ := cellsInts hu he h
  exact ⟨zs, by simpa using h1, h2⟩
theorem argRInt {P : Program} {t : TypeId} {k : IntKind} {av : AV} (hu : P.underlying t = some (.int k)) (h : ArgR P t av) : ∃ n : Int, av = .int k n ∧ (Lit.int k n).wf = true := by
  unfold ArgR at h
  rw [hu] at h
  generalize e : [av] = us at h
  cases h with
  | int _ k' n ht hn => rw [hu] at ht; cases ht; exact ⟨n, by simpa using e, hn⟩
  | bool _ b ht => rw [hu] at ht; cases ht
  | str _ s ht hs => rw [hu] at ht; cases ht
  | sl _ e' es ht hz hes => rw [hu] at ht; cases ht
  | struct _ fs us ht hl hf => rw [hu] at ht; cases ht
/-- A struct of two slices of numbers. -/
def pairTy (P : Program) (t t1 : TypeId) : Bool :=
  match P.underlying t with
  | some (.struct fs) => fs.toList.map (fun f => (f.type, f.offset)) == [(t1, 0), (t1, 1)]
  | _ => false
theorem argRPair {P : Program} {t t1 e : TypeId} {av : AV} (hp : pairTy P t t1 = true) (hu1 : P.underlying t1 = some (.slice e)) (he : P.underlying e = some (.int .i64)) (hc : P.cellsOf t = 2) (hc1 : P.cellsOf t1 = 1)
    (h : ArgR P t av) : ∃ xs zs : List Int, av = .agg [.sl 1 xs.length (xs.map (.int .i64)), .sl 1 zs.length (zs.map (.int .i64))] ∧ (∀ z ∈ xs, (Lit.int .i64 z).wf = true) ∧ ∀ z ∈ zs, (Lit.int .i64 z).wf = true := by
  unfold pairTy at hp
  split at hp
  case h_2 => cases hp
  rename_i fs hu
  have hf : fs.toList.map (fun f => (f.type, f.offset)) = [(t1, 0), (t1, 1)] := by simpa using hp
  unfold ArgR at h
  rw [hu] at h
  obtain ⟨us, rfl, h⟩ := h
  cases h with
  | int _ k' n ht hn => rw [hu] at ht; cases ht
  | bool _ b ht => rw [hu] at ht; cases ht
  | str _ s ht hs => rw [hu] at ht; cases ht
  | sl _ e' es ht hz hes => rw [hu] at ht; cases ht
  | struct _ fs' us ht hl hf' =>
    rw [hu] at ht; cases ht
    rw [hc] at hl
    match us, hl with
    | [a, b], _ =>
      have ha : ∀ p : TypeId × Nat, p ∈ [(t1, 0), (t1, 1)] → CellsOk P p.1 (([a, b].drop p.2).take (P.cellsOf p.1)) := fun p hp => by
        rw [← hf] at hp
        obtain ⟨f, hfm, rfl⟩ := List.mem_map.1 hp
        exact hf' f hfm
      have h0 := ha (t1, 0) (by simp)
      have h1 := ha (t1, 1) (by simp)
      simp only [hc1] at h0 h1
      obtain ⟨xs, e1, w1⟩ := cellsInts hu1 he h0
      obtain ⟨zs, e2, w2⟩ := cellsInts hu1 he h1
      simp at e1 e2
      exact ⟨xs, zs, by rw [e1, e2], w1, w2⟩
end Go.Am
