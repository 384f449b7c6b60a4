import Derived.Test.YtjmdhfjemaoebaaGreatM01x10
namespace Go.Am
open Go.RowKit
theorem pureL_take (k : IntKind) (m : Nat) (zs : List Int) : pureL ((zs.map (AV.int k)).take m) = true := by rw [← List.map_take]; exact pureL_ints _ _
theorem pureL_cut (k : IntKind) (l m : Nat) (zs : List Int) : pureL (((zs.map (AV.int k)).drop l).take m) = true := by rw [← List.map_drop, ← List.map_take]; exact pureL_ints _ _
theorem pureL_pair (c d n m : Nat) (xs zs : List Int) : pureL [.sl c n (xs.map (.int .i64)), .sl d m (zs.map (.int .i64))] = true := by
  simp [pureL, AV.pure, pureL_ints]
abbrev rowL (t : TypeId) (zs : List Int) : Row := ⟨0, t, 1, zs.map (.int .i64)⟩
def fnT {ι : Type} (t : TypeId) (args : ι → List AV) (pre : ι → Prop) (xs zs : ι → List Int) : CSpec :=
  { ι := ι, inout := [], args := args, ins := fun _ => [], pre := pre, post := fun x r ic news => ic = [] ∧ r = .agg [.ref 0 0 0 (xs x).length, .ref 1 0 0 (zs x).length] ∧ news = [rowL t (xs x), rowL t (zs x)] }
def fnTB {ι : Type} (t : TypeId) (args : ι → List AV) (pre : ι → Prop) (M : ι → List Int × List Int × Bool) : CSpec :=
  { ι := ι, inout := [], args := args, ins := fun _ => [], pre := pre, post := fun x r ic news => ic = [] ∧ r = .tup [.agg [.ref 0 0 0 (M x).1.length, .ref 1 0 0 (M x).2.1.length], .bool (M x).2.2] ∧ news = [rowL t (M x).1, rowL t (M x).2.1] }
theorem callT_in {P : Program} {f : FuncId} {ι : Type} {t : TypeId} {args : ι → List AV} {pre : ι → Prop} {xs zs : ι → List Int} (hs : Sound P f (fnT t args pre xs zs)) (x : ι) (hpre : pre x) {env : List AV} {rows : List Row} {ctr low : Nat} {k : AV → St → Prop}
    (hk : k (.agg [.ref rows.length ctr 0 (xs x).length, .ref (rows.length + 1) ctr 0 (zs x).length]) ⟨env, rows ++ [⟨ctr, t, 1, (xs x).map (.int .i64)⟩, ⟨ctr, t, 1, (zs x).map (.int .i64)⟩], ctr + 1, low⟩) :
    CallB P f ⟨env, rows, ctr, low⟩ (args x) k := callB_in (sp := fnT t args pre xs zs) hs rfl x rfl hpre (by
  rintro r news ⟨-, rfl, rfl⟩
  simpa [AV.back, backL, backT, backV, news_rows2, Nat.add_comm] using hk)
theorem callTB_in {P : Program} {f : FuncId} {ι : Type} {t : TypeId} {args : ι → List AV} {pre : ι → Prop} {M : ι → List Int × List Int × Bool} (hs : Sound P f (fnTB t args pre M)) (x : ι) (hpre : pre x) {env : List AV} {rows : List Row} {ctr low : Nat} {k : AV → St → Prop}
    (hk : k (.tup [.agg [.ref rows.length ctr 0 (M x).1.length, .ref (rows.length + 1) ctr 0 (M x).2.1.length], .bool (M x).2.2]) ⟨env, rows ++ [⟨ctr, t, 1, (M x).1.map (.int .i64)⟩, ⟨ctr, t, 1, (M x).2.1.map (.int .i64)⟩], ctr + 1, low⟩) :
    CallB P f ⟨env, rows, ctr, low⟩ (args x) k := callB_in (sp := fnTB t args pre M) hs rfl x rfl hpre (by
  rintro r news ⟨-, rfl, rfl⟩
  simpa [AV.back, backL, backT, backV, news_rows2, Nat.add_comm] using hk)
theorem retTe {env : List AV} {rows : List Row} {ctr τ1 τ2 v1 v2 n1 n2 : Nat} {t : TypeId} {xs ys xs' ys' : List Int} (hne : τ1 ≠ τ2) (h1 : rows[τ1]? = some ⟨v1, t, 1, xs.map (.int .i64)⟩) (h2 : rows[τ2]? = some ⟨v2, t, 1, ys.map (.int .i64)⟩)
    (e1 : n1 = xs.length) (e2 : n2 = ys.length) (hx : xs = xs') (hy : ys = ys') :
    RetB ⟨env, rows, ctr, 0⟩ [] (fun r ic news => ic = [] ∧ r = .agg [.ref 0 0 0 xs'.length, .ref 1 0 0 ys'.length] ∧ news = [rowL t xs', rowL t ys']) (.agg [.ref τ1 v1 0 n1, .ref τ2 v2 0 n2]) := by
  subst e1; subst e2; subst hx; subst hy
  refine retP1 (Q := fun r news => r = .agg [.ref 0 0 0 xs.length, .ref 1 0 0 ys.length] ∧ news = [rowL t xs, rowL t ys]) (L := [τ1, τ2]) (by simpa using hne) ?_ ?_ ⟨rfl, rfl⟩
  · simp [insOf, h1, h2, protL_ren (protL_ints .i64 xs), protL_ren (protL_ints .i64 ys)]
  · have : (τ1 == τ2) = false := by simpa using hne
    simp [AV.ren, renL, h1, h2, List.idxOf, List.findIdx_cons, this]
theorem retTB {env : List AV} {rows : List Row} {ctr τ1 τ2 v1 v2 n1 n2 : Nat} {t : TypeId} {xs ys : List Int} {b : Bool} {M : List Int × List Int × Bool} (hM : M = (xs, ys, b)) (hne : τ1 ≠ τ2) (h1 : rows[τ1]? = some ⟨v1, t, 1, xs.map (.int .i64)⟩) (h2 : rows[τ2]? = some ⟨v2, t, 1, ys.map (.int .i64)⟩)
    (e1 : n1 = xs.length) (e2 : n2 = ys.length) :
    RetB ⟨env, rows, ctr, 0⟩ [] (fun r ic news => ic = [] ∧ r = .tup [.agg [.ref 0 0 0 M.1.length, .ref 1 0 0 M.2.1.length], .bool M.2.2] ∧ news = [rowL t M.1, rowL t M.2.1]) (.tup [.agg [.ref τ1 v1 0 n1, .ref τ2 v2 0 n2], .bool b]) := by
  subst hM
  subst e1; subst e2
  refine retP1 (Q := fun r news => r = .tup [.agg [.ref 0 0 0 xs.length, .ref 1 0 0 ys.length], .bool b] ∧ news = [rowL t xs, rowL t ys]) (L := [τ1, τ2]) (by simpa using hne) ?_ ?_ ⟨rfl, rfl⟩
  · simp [insOf, h1, h2, protL_ren (protL_ints .i64 xs), protL_ren (protL_ints .i64 ys)]
  · have : (τ1 == τ2) = false := by simpa using hne
    simp [AV.ren, renL, h1, h2, List.idxOf, List.findIdx_cons, this]
theorem retT {env : List AV} {rows : List Row} {ctr τ1 τ2 v1 v2 n1 n2 : Nat} {t : TypeId} {xs ys : List Int} (hne : τ1 ≠ τ2) (h1 : rows[τ1]? = some ⟨v1, t, 1, xs.map (.int .i64)⟩) (h2 : rows[τ2]? = some ⟨v2, t, 1, ys.map (.int .i64)⟩)
    (e1 : n1 = xs.length) (e2 : n2 = ys.length) :
    RetB ⟨env, rows, ctr, 0⟩ [] (fun r ic news => ic = [] ∧ r = .agg [.ref 0 0 0 xs.length, .ref 1 0 0 ys.length] ∧ news = [rowL t xs, rowL t ys]) (.agg [.ref τ1 v1 0 n1, .ref τ2 v2 0 n2]) := retTe hne h1 h2 e1 e2 rfl rfl
def fnMT {ι : Type} (t : TypeId) (xs zs : ι → List Int) (m : ι → Int) (pre : ι → Prop) (r : ι → Int) (us vs : ι → List Int) : CSpec :=
  { ι := ι, inout := [true], args := fun x => [.agg [.ref 0 0 0 (xs x).length, .ref 1 0 0 (zs x).length], .int .i64 (m x)], ins := fun x => [⟨0, t, 1, (xs x).map (.int .i64)⟩, ⟨0, t, 1, (zs x).map (.int .i64)⟩], pre := pre,
    post := fun x u ic news => u = .int .i64 (r x) ∧ ic = [(us x).map (.int .i64), (vs x).map (.int .i64)] ∧ news = [] }
theorem callMT_in {P : Program} {f : FuncId} {ι : Type} {t : TypeId} {xs zs : ι → List Int} {m : ι → Int} {pre : ι → Prop} {r : ι → Int} {us vs : ι → List Int} (hs : Sound P f (fnMT t xs zs m pre r us vs)) (x : ι) (hpre : pre x) {env : List AV} {rows : List Row} {ctr low τ1 τ2 v1 v2 n1 n2 : Nat} {z : Int} {k : AV → St → Prop}
    (h1 : rows[τ1]? = some ⟨v1, t, 1, (xs x).map (.int .i64)⟩) (h2 : rows[τ2]? = some ⟨v2, t, 1, (zs x).map (.int .i64)⟩) (hne : τ1 ≠ τ2) (e1 : n1 = (xs x).length) (e2 : n2 = (zs x).length) (hz : z = m x)
    (hk : k (.int .i64 (r x)) ⟨env, setRows rows [τ1, τ2] [(us x).map (.int .i64), (vs x).map (.int .i64)], ctr + 1, low⟩) :
    CallG P f ⟨env, rows, ctr, low⟩ [.agg [.ref τ1 v1 0 n1, .ref τ2 v2 0 n2], .int .i64 z] k := by
  subst e1; subst e2; subst hz
  refine .inr ⟨[τ1, τ2], _, hs, [.agg [.ref 0 0 0 (xs x).length, .ref 1 0 0 (zs x).length], .int .i64 (m x)], [⟨0, t, 1, (xs x).map (.int .i64)⟩, ⟨0, t, 1, (zs x).map (.int .i64)⟩], by simpa using hne, ?_, ?_, x, rfl, rfl, hpre, ?_⟩
  · have hb : (τ1 == τ2) = false := by simpa using hne
    have ea : callArg ⟨env, rows, ctr, low⟩ [τ1, τ2] true (.agg [.ref τ1 v1 0 (xs x).length, .ref τ2 v2 0 (zs x).length]) = some (.agg [.ref 0 0 0 (xs x).length, .ref 1 0 0 (zs x).length]) := by
      simp [callArg, AV.ren, renL, h1, h2, List.idxOf, List.findIdx_cons, hb]
    show (callArg ⟨env, rows, ctr, low⟩ [τ1, τ2] true (.agg [.ref τ1 v1 0 (xs x).length, .ref τ2 v2 0 (zs x).length])).bind _ = _
    rw [ea]
    rfl
  · simp [insOf, h1, h2, protL_ren (protL_ints .i64 (xs x)), protL_ren (protL_ints .i64 (zs x))]
  · rintro u ic news ⟨rfl, rfl, rfl⟩ _
    show k (.int .i64 (r x)) ⟨env, setRows rows [τ1, τ2] [backL _ [τ1, τ2] ((us x).map (.int .i64)), backL _ [τ1, τ2] ((vs x).map (.int .i64))] ++ [], ctr + 1, low⟩
    rw [List.append_nil, protL_back (protL_ints _ _), protL_back (protL_ints _ _)]; exact hk
theorem retMT {env : List AV} {ctr : Nat} {t : TypeId} {xs zs us vs : List Int} {v1 v2 : Nat} {rest : List Row} {z z' : Int} (e : z = z') :
    RetB ⟨env, ⟨v1, t, 1, us.map (.int .i64)⟩ :: ⟨v2, t, 1, vs.map (.int .i64)⟩ :: rest, ctr, 2⟩ [⟨0, t, 1, xs.map (.int .i64)⟩, ⟨0, t, 1, zs.map (.int .i64)⟩] (fun u ic news => u = .int .i64 z' ∧ ic = [us.map (.int .i64), vs.map (.int .i64)] ∧ news = []) (.int .i64 z) := by
  refine RetB1.ret ⟨[], [⟨0, t, 1, us.map (.int .i64)⟩, ⟨0, t, 1, vs.map (.int .i64)⟩], .int .i64 z, [us.map (.int .i64), vs.map (.int .i64)], [], (show ([0, 1] : List Nat).Nodup by decide), ?_, rfl, rfl, rfl, by rw [e], rfl, rfl⟩
  show insOf _ [0, 1] [0, 1] = _
  simp [insOf, protL_ren (protL_ints .i64 us), protL_ren (protL_ints .i64 vs)]
theorem retKeep2 {env : List AV} {ctr : Nat} {t : TypeId} {xs zs us vs : List Int} {v1 v2 n1 n2 : Nat} {rest : List Row} {b : Bool} {post : AV → List (List AV) → List Row → Prop} (hp : post (.tup [.agg [.ref 0 0 0 n1, .ref 1 0 0 n2], .bool b]) [us.map (.int .i64), vs.map (.int .i64)] []) :
    RetB ⟨env, ⟨v1, t, 1, us.map (.int .i64)⟩ :: ⟨v2, t, 1, vs.map (.int .i64)⟩ :: rest, ctr, 2⟩ [⟨0, t, 1, xs.map (.int .i64)⟩, ⟨0, t, 1, zs.map (.int .i64)⟩] post (.tup [.agg [.ref 0 v1 0 n1, .ref 1 v2 0 n2], .bool b]) := by
  refine RetB1.ret ⟨[], [⟨0, t, 1, us.map (.int .i64)⟩, ⟨0, t, 1, vs.map (.int .i64)⟩], _, [us.map (.int .i64), vs.map (.int .i64)], [], (show ([0, 1] : List Nat).Nodup by decide), ?_, ?_, rfl, rfl, hp⟩
  · show insOf _ [0, 1] [0, 1] = _
    simp [insOf, protL_ren (protL_ints .i64 us), protL_ren (protL_ints .i64 vs)]
  · show AV.ren _ [0, 1] _ = _
    simp [AV.ren, renL, List.idxOf, List.findIdx_cons]
theorem retNew2 {env : List AV} {ctr : Nat} {t : TypeId} {xs zs us vs ps qs : List Int} {v1 v2 n3 n4 τ3 τ4 v3 v4 : Nat} {rest : List Row} {b : Bool} {post : AV → List (List AV) → List Row → Prop} (hne : τ3 ≠ τ4) (h3 : rest[τ3]? = some ⟨v3, t, 1, ps.map (.int .i64)⟩) (h4 : rest[τ4]? = some ⟨v4, t, 1, qs.map (.int .i64)⟩)
    (hp : post (.tup [.agg [.ref 2 0 0 n3, .ref 3 0 0 n4], .bool b]) [us.map (.int .i64), vs.map (.int .i64)] [rowL t ps, rowL t qs]) :
    RetB ⟨env, ⟨v1, t, 1, us.map (.int .i64)⟩ :: ⟨v2, t, 1, vs.map (.int .i64)⟩ :: rest, ctr, 2⟩ [⟨0, t, 1, xs.map (.int .i64)⟩, ⟨0, t, 1, zs.map (.int .i64)⟩] post (.tup [.agg [.ref (τ3 + 1 + 1) v3 0 n3, .ref (τ4 + 1 + 1) v4 0 n4], .bool b]) := by
  have hb : (τ3 == τ4) = false := by simpa using hne
  refine RetB1.ret ⟨[τ3 + 1 + 1, τ4 + 1 + 1], [⟨0, t, 1, us.map (.int .i64)⟩, ⟨0, t, 1, vs.map (.int .i64)⟩, rowL t ps, rowL t qs], _, [us.map (.int .i64), vs.map (.int .i64)], [rowL t ps, rowL t qs], (show ([0, 1, τ3 + 1 + 1, τ4 + 1 + 1] : List Nat).Nodup by simpa using hne), ?_, ?_, rfl, rfl, hp⟩
  · show insOf _ [0, 1, τ3 + 1 + 1, τ4 + 1 + 1] [0, 1, τ3 + 1 + 1, τ4 + 1 + 1] = _
    simp [insOf, h3, h4, protL_ren (protL_ints .i64 us), protL_ren (protL_ints .i64 vs), protL_ren (protL_ints .i64 ps), protL_ren (protL_ints .i64 qs)]
  · show AV.ren _ [0, 1, τ3 + 1 + 1, τ4 + 1 + 1] _ = _
    simp [AV.ren, renL, h3, h4, List.idxOf, List.findIdx_cons, hb]
theorem flat_ints {P : Program} {e : TypeId} {k : IntKind} (he : P.underlying e = some (.int k)) : ∀ (es : List (List AV)), (∀ us ∈ es, CellsOk P e us) → ∃ zs : List Int, es.flatten = zs.map (.int k) ∧ zs.length = es.length ∧ ∀ z ∈ zs, (Lit.int k z).wf = true
  | [], _ => ⟨[], rfl, rfl, fun z h => by simp at h⟩
  | us :: es, h => by
    obtain ⟨zs, h1, h2, h3⟩ := flat_ints he es fun u hu => h u (List.mem_cons_of_mem _ hu)
    have hu := h us List.mem_cons_self
    cases hu with
    | int _ k' n ht hn =>
      rw [he] at ht; cases ht
      exact ⟨n :: zs, by simp [h1], by simp [h2], fun z hz => by
        rcases List.mem_cons.1 hz with rfl | hz
        · exact hn
        · exact h3 z hz⟩
    | bool _ b ht => rw [he] at ht; cases ht
    | str _ s ht hs => rw [he] at ht; cases ht
    | sl _ e' es' ht hz hes => rw [he] at ht; cases ht
    | struct _ fs us ht hl hf => rw [he] at ht; cases ht
theorem cellsInts {P : Program} {t e : TypeId} {k : IntKind} {us : List AV} (hu : P.underlying t = some (.slice e)) (he : P.underlying e = some (.int k)) (h : CellsOk P t us) : ∃ zs : List Int, us = [.sl 1 zs.length (zs.map (.int k))] ∧ ∀ z ∈ zs, (Lit.int k z).wf = true := by
  cases h with
  | int _ k' n ht hn => rw [hu] at ht; cases ht
  | bool _ b ht => rw [hu] at ht; cases ht
  | str _ s ht hs => rw [hu] at ht; cases ht
  | sl _ e' es ht hz hes =>
    rw [hu] at ht; cases ht
    obtain ⟨zs, h1, h2, h3⟩ := flat_ints he es hes
    exact ⟨zs, by rw [h1, h2], h3⟩
  | struct _ fs us ht hl hf => rw [hu] at ht; cases ht
def pairTy (P : Program) (t t1 : TypeId) : Bool :=
  match P.underlying t with
  | some (.struct fs) => fs.toList.map (fun f => (f.type, f.offset)) == [(t1, 0), (t1, 1)]
  | _ => false
theorem argRPair {P : Program} {t t1 e : TypeId} {av : AV} (hp : pairTy P t t1 = true) (hu1 : P.underlying t1 = some (.slice e)) (he : P.underlying e = some (.int .i64)) (hc : P.cellsOf t = 2) (hc1 : P.cellsOf t1 = 1)
    (h : ArgR P t av) : ∃ xs zs : List Int, av = .agg [.sl 1 xs.length (xs.map (.int .i64)), .sl 1 zs.length (zs.map (.int .i64))] ∧ (∀ z ∈ xs, (Lit.int .i64 z).wf = true) ∧ ∀ z ∈ zs, (Lit.int .i64 z).wf = true := by
  unfold pairTy at hp
  split at hp
  case h_2 => cases hp
  rename_i fs hu
  have hf : fs.toList.map (fun f => (f.type, f.offset)) = [(t1, 0), (t1, 1)] := by simpa using hp
  unfold ArgR at h
  rw [hu] at h
  obtain ⟨us, rfl, h⟩ := h
  cases h with
  | int _ k' n ht hn => rw [hu] at ht; cases ht
  | bool _ b ht => rw [hu] at ht; cases ht
  | str _ s ht hs => rw [hu] at ht; cases ht
  | sl _ e' es ht hz hes => rw [hu] at ht; cases ht
  | struct _ fs' us ht hl hf' =>
    rw [hu] at ht; cases ht
    rw [hc] at hl
    match us, hl with
    | [a, b], _ =>
      have ha : ∀ p : TypeId × Nat, p ∈ [(t1, 0), (t1, 1)] → CellsOk P p.1 (([a, b].drop p.2).take (P.cellsOf p.1)) := fun p hp => by
        rw [← hf] at hp
        obtain ⟨f, hfm, rfl⟩ := List.mem_map.1 hp
        exact hf' f hfm
      have h0 := ha (t1, 0) (by simp)
      have h1 := ha (t1, 1) (by simp)
      simp only [hc1] at h0 h1
      obtain ⟨xs, e1, w1⟩ := cellsInts hu1 he h0
      obtain ⟨zs, e2, w2⟩ := cellsInts hu1 he h1
      simp at e1 e2
      exact ⟨xs, zs, by rw [e1, e2], w1, w2⟩
end Go.Am
namespace Go.Am
open Go.RowKit
def maskE : List Bool → List AV → List AV
  | b :: bs, u :: us => (match b with | true => u | false => .un) :: maskE bs us
  | [], us => us
  | _ :: _, [] => []
def setsE : List (Nat × AV) → List AV → List AV
  | [], us => us
  | (i, u) :: xs, us => setsE xs (us.set i u)
def setsR : List (Nat × List AV) → List Row → List Row
  | [], rs => rs
  | (i, c) :: xs, rs => setsR xs (rs.modify i fun r => r.putC c)
def updS (s : St) (m : List Bool) (e : List (Nat × AV)) (r : List (Nat × List AV)) : St :=
  match s with
  | ⟨env, rows, ctr, low⟩ => ⟨setsE e (maskE m env), setsR r rows, ctr, low⟩
def forceE (us : List AV) (k : List AV → Prop) : Prop :=
  match us with
  | [] => k []
  | u :: us => forceV u fun u' => forceE us fun us' => k (u' :: us')
theorem forceE_eq : ∀ (us : List AV) (k : List AV → Prop), forceE us k = k us
  | [], k => rfl
  | u :: us, k => by unfold forceE; rw [forceV_eq, forceE_eq us]
def forceU (s : St) (k : St → Prop) : Prop :=
  match s with
  | ⟨env, rows, ctr, low⟩ => forceE env fun env' => forceR rows fun rows' => forceN ctr fun ctr' => forceN low fun low' => k ⟨env', rows', ctr', low'⟩
theorem forceU_eq (s : St) (k : St → Prop) : forceU s k = k s := by cases s; unfold forceU; simp only; rw [forceE_eq, forceR_eq, forceN_eq, forceN_eq]
theorem loop_ut {body : (Exit → St → Prop) → St → Prop} {Q : Exit → St → Prop} {s : St} {ι : Type} (msk : List Bool) (e : ι → List (Nat × AV)) (r : ι → List (Nat × List AV)) (p : ι → Prop) (m : ι → Nat) (x0 : ι) (hp : p x0)
    (h0 : forceU (updS s msk (e x0) (r x0)) fun s' => s.to s')
    (hr : ∀ x, p x → forceU (updS s msk (e x) (r x)) fun s' => body (aThen (NextB (fun x => updS s msk (e x) (r x)) p m (m x)) Q) s') : aLoop body Q s :=
  loop_to (fun x => updS s msk (e x) (r x)) p m x0 hp (by rw [forceU_eq] at h0; exact h0) fun x hx => by have := hr x hx; rw [forceU_eq] at this; exact this
theorem loop_u {body : (Exit → St → Prop) → St → Prop} {Q : Exit → St → Prop} {s : St} {ι : Type} (msk : List Bool) (e : ι → List (Nat × AV)) (r : ι → List (Nat × List AV)) (p : ι → Prop) (m : ι → Nat) (x0 : ι) (hp : p x0)
    (h0 : forceU (updS s msk (e x0) (r x0)) fun s' => s.le s')
    (hr : ∀ x, p x → forceU (updS s msk (e x) (r x)) fun s' => body (aThen (NextB (fun x => updS s msk (e x) (r x)) p m (m x)) Q) s') : aLoop body Q s :=
  loop_ut msk e r p m x0 hp (by rw [forceU_eq] at h0 ⊢; exact h0.to) hr
theorem next_u {ι : Type} {F : ι → St} {p : ι → Prop} {m : ι → Nat} {n : Nat} {s1 : St} (x : ι) (hm : m x < n) (hp : p x) (hle : forceU (F x) fun s2 => s1.le s2) : NextB F p m n s1 := next_in x hm hp (by rw [forceU_eq] at hle; exact hle)
theorem next_ut {ι : Type} {F : ι → St} {p : ι → Prop} {m : ι → Nat} {n : Nat} {s1 : St} (x : ι) (hm : m x < n) (hp : p x) (hle : forceU (F x) fun s2 => s1.to s2) : NextB F p m n s1 := next_to x hm hp (by rw [forceU_eq] at hle; exact hle)
structure Nd where
  op : Int
  a : Int
  b : Int
  l : List Int
  deriving DecidableEq, Inhabited
abbrev T2 := List Int × List Int
def slI (c : Nat) (xs : List Int) : AV := .sl c xs.length (xs.map (.int .i64))
def ownI (t : TypeId) (xs : List Int) : AV := .own t 1 xs.length (xs.map (.int .i64))
def ndC (c : Nat) (n : Nd) : List AV := [.int .i64 n.op, .int .i64 n.a, .int .i64 n.b, slI c n.l]
def ndO (t : TypeId) (n : Nd) : List AV := [.int .i64 n.op, .int .i64 n.a, .int .i64 n.b, ownI t n.l]
def tnC (c : Nat) (x : T2) : List AV := [slI c x.1, slI c x.2]
def tnO (t : TypeId) (x : T2) : List AV := [ownI t x.1, ownI t x.2]
theorem ndC_length (c : Nat) (n : Nd) : (ndC c n).length = 4 := rfl
theorem ndO_length (t : TypeId) (n : Nd) : (ndO t n).length = 4 := rfl
theorem tnC_length (c : Nat) (n : T2) : (tnC c n).length = 2 := rfl
theorem tnO_length (t : TypeId) (n : T2) : (tnO t n).length = 2 := rfl
theorem getD_eq {α : Type} {l : List α} {i : Nat} {d : α} (h : i < l.length) : l[i]? = some (l.getD i d) := by
  simp [List.getD, List.getElem?_eq_getElem h]
theorem flat_len {α : Type} {f : α → List AV} {z : Nat} (hz : ∀ x, (f x).length = z) : ∀ (l : List α), (l.flatMap f).length = l.length * z
  | [] => by simp
  | x :: l => by rw [List.flatMap_cons, List.length_append, hz, flat_len hz l, List.length_cons, Nat.add_mul, Nat.one_mul, Nat.add_comm]
theorem flat_drop {α : Type} {f : α → List AV} {z : Nat} (hz : ∀ x, (f x).length = z) (d : α) : ∀ (l : List α) (i : Nat), i < l.length → (l.flatMap f).drop (i * z) = f (l.getD i d) ++ (l.drop (i + 1)).flatMap f
  | x :: l, 0, _ => by simp
  | x :: l, i + 1, h => by
    have h' : i < l.length := by simpa using h
    have := flat_drop hz d l i h'
    have e : (i + 1) * z = (f x).length + i * z := by rw [hz, Nat.add_mul, Nat.one_mul, Nat.add_comm]
    rw [List.flatMap_cons, e, ← List.drop_drop, List.drop_left]
    simpa using this
theorem flatM_get {α : Type} {f : α → List AV} {z : Nat} (hz : ∀ x, (f x).length = z) (d : α) {l : List α} {i o j : Nat} {u : AV} (ho : o = i * z) (hi : i < l.length) (hj : (f (l.getD i d))[j]? = some u) : (l.flatMap f)[o + j]? = some u := by
  have h := flat_drop hz d l i hi
  rw [← List.getElem?_drop, ho, h, List.getElem?_append_left (List.getElem?_eq_some_iff.1 hj).1]
  exact hj
theorem get_map {α : Type} {f : α → AV} {l : List α} (d : α) {i o : Nat} {K : AV → Prop} (ho : o = i) (h : i < l.length) (hK : K (f (l.getD i d))) : aGet ((l.map f).drop o) 0 K :=
  ⟨_, by subst ho; rw [List.getElem?_drop, Nat.add_zero, List.getElem?_map, getD_eq (d := d) h]; rfl, hK⟩
theorem get_flat {α : Type} {f : α → List AV} {z : Nat} (hz : ∀ x, (f x).length = z) (d : α) {l : List α} {i o j : Nat} {u : AV} {K : AV → Prop} (ho : o = i * z) (hi : i < l.length) (hj : (f (l.getD i d))[j]? = some u) (hK : K u) : aGet (((l.flatMap f).drop o).drop j) 0 K :=
  ⟨u, by rw [List.getElem?_drop, List.getElem?_drop, Nat.add_zero]; exact flatM_get hz d ho hi hj, hK⟩
theorem get_flat0 {α : Type} {f : α → List AV} {z : Nat} (hz : ∀ x, (f x).length = z) (d : α) {l : List α} {i o j : Nat} {u : AV} {K : AV → Prop} (ho : o = i * z) (hi : i < l.length) (hj : (f (l.getD i d))[j]? = some u) (hK : K u) : aGet ((l.flatMap f).drop (o + j)) 0 K :=
  ⟨u, by rw [List.getElem?_drop, Nat.add_zero]; exact flatM_get hz d ho hi hj, hK⟩
theorem part_flat {α : Type} {f : α → List AV} {z : Nat} (hz : ∀ x, (f x).length = z) (hf : ∀ x, ((f x).all fun u => !u.isOwn) = true) (d : α) {l : List α} {i o : Nat} {k : AV → Prop} (ho : o = i * z) (hi : i < l.length) (hk : k (.agg (f (l.getD i d)))) :
    aTakeN z ((l.flatMap f).drop o) k := by
  have e : ((l.flatMap f).drop o).take z = f (l.getD i d) := by
    rw [ho, flat_drop hz d l i hi, List.take_append_of_le_length (by rw [hz]; exact Nat.le_refl _), List.take_of_length_le (by rw [hz]; exact Nat.le_refl _)]
  refine takeN_in ⟨?_, ?_, ?_⟩
  · rw [ho, flat_drop hz d l i hi, List.length_append, hz]; omega
  · rw [e]; exact hf _
  · rw [e]; exact hk
theorem get_ii_n {c k : Nat} {xss : List (List Int)} {K : AV → Prop} (h : k < xss.length) (hK : K (slI c (xss.getD k []))) : aGet ((xss.map (slI c)).drop ((k : Int).toNat * 1)) 0 K := get_map [] (by simp) h hK
theorem get_ii {c : Nat} {i : Int} {xss : List (List Int)} {K : AV → Prop} (h : 0 ≤ i ∧ i < xss.length) (hK : K (slI c (xss.getD i.toNat []))) : aGet ((xss.map (slI c)).drop (i.toNat * 1)) 0 K := get_map [] (by simp) (by omega) hK
theorem get_nd_n {c k j : Nat} {ns : List Nd} {u : AV} {K : AV → Prop} (h : k < ns.length) (hj : (ndC c (ns.getD k default))[j]? = some u) (hK : K u) : aGet (((ns.flatMap (ndC c)).drop ((k : Int).toNat * 4)).drop j) 0 K := get_flat (ndC_length c) default (by rw [Int.toNat_natCast]) h hj hK
theorem get_nd {c j : Nat} {i : Int} {ns : List Nd} {u : AV} {K : AV → Prop} (h : 0 ≤ i ∧ i < ns.length) (hj : (ndC c (ns.getD i.toNat default))[j]? = some u) (hK : K u) : aGet (((ns.flatMap (ndC c)).drop (i.toNat * 4)).drop j) 0 K := get_flat (ndC_length c) default rfl (by omega) hj hK
theorem get_tn_n {c k j : Nat} {ns : List T2} {u : AV} {K : AV → Prop} (h : k < ns.length) (hj : (tnC c (ns.getD k ([], [])))[j]? = some u) (hK : K u) : aGet (((ns.flatMap (tnC c)).drop ((k : Int).toNat * 2)).drop j) 0 K := get_flat (tnC_length c) _ (by rw [Int.toNat_natCast]) h hj hK
theorem get_tn {c j : Nat} {i : Int} {ns : List T2} {u : AV} {K : AV → Prop} (h : 0 ≤ i ∧ i < ns.length) (hj : (tnC c (ns.getD i.toNat ([], [])))[j]? = some u) (hK : K u) : aGet (((ns.flatMap (tnC c)).drop (i.toNat * 2)).drop j) 0 K := get_flat (tnC_length c) _ rfl (by omega) hj hK
theorem part_nd_n {c k : Nat} {ns : List Nd} {K : AV → Prop} (h : k < ns.length) (hk : K (.agg (ndC c (ns.getD k default)))) :
    aTakeN 4 ((ns.flatMap (ndC c)).drop ((k : Int).toNat * 4)) K := part_flat (ndC_length c) (fun _ => rfl) default (by rw [Int.toNat_natCast]) h hk
theorem part_nd {c : Nat} {i : Int} {ns : List Nd} {K : AV → Prop} (h : 0 ≤ i ∧ i < ns.length) (hk : K (.agg (ndC c (ns.getD i.toNat default)))) :
    aTakeN 4 ((ns.flatMap (ndC c)).drop (i.toNat * 4)) K := part_flat (ndC_length c) (fun _ => rfl) default rfl (by omega) hk
theorem part_tn_n {c k : Nat} {ns : List T2} {K : AV → Prop} (h : k < ns.length) (hk : K (.agg (tnC c (ns.getD k ([], []))))) :
    aTakeN 2 ((ns.flatMap (tnC c)).drop ((k : Int).toNat * 2)) K := part_flat (tnC_length c) (fun _ => rfl) _ (by rw [Int.toNat_natCast]) h hk
theorem part_tn {c : Nat} {i : Int} {ns : List T2} {K : AV → Prop} (h : 0 ≤ i ∧ i < ns.length) (hk : K (.agg (tnC c (ns.getD i.toNat ([], []))))) :
    aTakeN 2 ((ns.flatMap (tnC c)).drop (i.toNat * 2)) K := part_flat (tnC_length c) (fun _ => rfl) _ rfl (by omega) hk
theorem pureL_map {α : Type} {f : α → AV} (h : ∀ x, (f x).pure = true) : ∀ (l : List α), pureL (l.map f) = true
  | [] => rfl
  | x :: l => by rw [List.map_cons]; show ((f x).pure && pureL (l.map f)) = true; rw [h, pureL_map h l]; rfl
theorem pureL_app : ∀ {us vs : List AV}, pureL us = true → pureL vs = true → pureL (us ++ vs) = true
  | [], _, _, h => h
  | u :: us, vs, h, h' => by
    have h : (u.pure && pureL us) = true := h
    rw [Bool.and_eq_true] at h
    show (u.pure && pureL (us ++ vs)) = true
    rw [h.1, pureL_app h.2 h']; rfl
theorem protL_app : ∀ {us vs : List AV}, protL us = true → protL vs = true → protL (us ++ vs) = true
  | [], _, _, h => h
  | u :: us, vs, h, h' => by
    have h : (u.prot && protL us) = true := h
    rw [Bool.and_eq_true] at h
    show (u.prot && protL (us ++ vs)) = true
    rw [h.1, protL_app h.2 h']; rfl
theorem pureL_flat {α : Type} {f : α → List AV} (h : ∀ x, pureL (f x) = true) : ∀ (l : List α), pureL (l.flatMap f) = true
  | [] => rfl
  | x :: l => by rw [List.flatMap_cons]; exact pureL_app (h x) (pureL_flat h l)
theorem protL_map {α : Type} {f : α → AV} (h : ∀ x, (f x).prot = true) : ∀ (l : List α), protL (l.map f) = true
  | [] => rfl
  | x :: l => by rw [List.map_cons]; show ((f x).prot && protL (l.map f)) = true; rw [h, protL_map h l]; rfl
theorem protL_flat {α : Type} {f : α → List AV} (h : ∀ x, protL (f x) = true) : ∀ (l : List α), protL (l.flatMap f) = true
  | [] => rfl
  | x :: l => by rw [List.flatMap_cons]; exact protL_app (h x) (protL_flat h l)
theorem slI_pure (c : Nat) (xs : List Int) : (slI c xs).pure = true := pureL_ints _ _
theorem ownI_pure (t : TypeId) (xs : List Int) : (ownI t xs).pure = true := pureL_ints _ _
theorem ownI_prot (t : TypeId) (xs : List Int) : (ownI t xs).prot = true := protL_ints _ _
theorem ndC_pure (c : Nat) (n : Nd) : pureL (ndC c n) = true := by simp [ndC, pureL, AV.pure, slI_pure]
theorem ndO_pure (t : TypeId) (n : Nd) : pureL (ndO t n) = true := by simp [ndO, pureL, AV.pure, ownI_pure]
theorem ndO_prot (t : TypeId) (n : Nd) : protL (ndO t n) = true := by simp [ndO, protL, AV.prot, ownI_prot]
theorem tnC_pure (c : Nat) (n : T2) : pureL (tnC c n) = true := by simp [tnC, pureL, slI_pure]
theorem tnO_pure (t : TypeId) (n : T2) : pureL (tnO t n) = true := by simp [tnO, pureL, ownI_pure]
theorem tnO_prot (t : TypeId) (n : T2) : protL (tnO t n) = true := by simp [tnO, protL, ownI_prot]
theorem pureL_ii (c : Nat) (xss : List (List Int)) : pureL (xss.map (slI c)) = true := pureL_map (slI_pure c) _
theorem pureL_nd (c : Nat) (ns : List Nd) : pureL (ns.flatMap (ndC c)) = true := pureL_flat (ndC_pure c) _
theorem pureL_tn (c : Nat) (ns : List T2) : pureL (ns.flatMap (tnC c)) = true := pureL_flat (tnC_pure c) _
theorem protL_oi (t : TypeId) (xss : List (List Int)) : protL (xss.map (ownI t)) = true := protL_map (ownI_prot t) _
theorem protL_ond (t : TypeId) (ns : List Nd) : protL (ns.flatMap (ndO t)) = true := protL_flat (ndO_prot t) _
theorem protL_otn (t : TypeId) (ns : List T2) : protL (ns.flatMap (tnO t)) = true := protL_flat (tnO_prot t) _
theorem pureL_oi (t : TypeId) (xss : List (List Int)) : pureL (xss.map (ownI t)) = true := pureL_map (ownI_pure t) _
theorem pureL_ond (t : TypeId) (ns : List Nd) : pureL (ns.flatMap (ndO t)) = true := pureL_flat (ndO_pure t) _
theorem pureL_otn (t : TypeId) (ns : List T2) : pureL (ns.flatMap (tnO t)) = true := pureL_flat (tnO_pure t) _
theorem tr_ownI (f : Nat) (t : TypeId) (xs : List Int) : AV.tr (f + 2) (ownI t xs) = some (slI 0 xs) := by
  show (((xs.map (AV.int .i64))).mapM (AV.tr (f + 1))).map (AV.sl 0 xs.length) = _
  rw [scalL_tr (scalL_ints _ _)]; rfl
theorem trL_map {α : Type} {f : Nat} {a b : α → AV} (h : ∀ x, AV.tr f (a x) = some (b x)) : ∀ (l : List α), (l.map a).mapM (AV.tr f) = some (l.map b)
  | [] => rfl
  | x :: l => by simp [List.mapM_cons, h, trL_map h l]
theorem trL_app {f : Nat} : ∀ {us us' vs vs' : List AV}, us.mapM (AV.tr f) = some us' → vs.mapM (AV.tr f) = some vs' → (us ++ vs).mapM (AV.tr f) = some (us' ++ vs')
  | [], us', vs, vs', h, h' => by
    have : us' = [] := by simpa using h.symm
    subst this; exact h'
  | u :: us, us', vs, vs', h, h' => by
    simp only [List.mapM_cons, Option.pure_def, Option.bind_eq_bind, Option.bind_eq_some_iff, Option.some.injEq] at h
    obtain ⟨v, h1, ws, h2, rfl⟩ := h
    have := trL_app h2 h'
    simp [List.mapM_cons, h1, this]
theorem trL_flat {α : Type} {f : Nat} {a b : α → List AV} (h : ∀ x, (a x).mapM (AV.tr f) = some (b x)) : ∀ (l : List α), (l.flatMap a).mapM (AV.tr f) = some (l.flatMap b)
  | [] => rfl
  | x :: l => by rw [List.flatMap_cons, List.flatMap_cons]; exact trL_app (h x) (trL_flat h l)
theorem tr_int (f : Nat) (k : IntKind) (n : Int) : AV.tr (f + 1) (.int k n) = some (.int k n) := rfl
theorem trL_ndO (f : Nat) (t : TypeId) (n : Nd) : (ndO t n).mapM (AV.tr (f + 2)) = some (ndC 0 n) := by simp [ndO, ndC, List.mapM_cons, tr_ownI, tr_int]
theorem trL_tnO (f : Nat) (t : TypeId) (n : T2) : (tnO t n).mapM (AV.tr (f + 2)) = some (tnC 0 n) := by simp [tnO, tnC, List.mapM_cons, tr_ownI]
theorem cut_ii {f : Nat} {t : TypeId} {xss : List (List Int)} {m : Nat} {k : List AV → Prop} (hm : m = xss.length) (hk : k (xss.map (slI 0))) : aCut (f + 2) (xss.map (ownI t)) 0 (m * 1) k := cut_tr (by simp [hm]) (trL_map (tr_ownI f t) xss) hk
theorem cut_nd {f : Nat} {t : TypeId} {ns : List Nd} {m : Nat} {k : List AV → Prop} (hm : m = ns.length) (hk : k (ns.flatMap (ndC 0))) : aCut (f + 2) (ns.flatMap (ndO t)) 0 (m * 4) k := cut_tr (by rw [flat_len (ndO_length t), hm]) (trL_flat (trL_ndO f t) ns) hk
theorem cut_tn {f : Nat} {t : TypeId} {ns : List T2} {m : Nat} {k : List AV → Prop} (hm : m = ns.length) (hk : k (ns.flatMap (tnC 0))) : aCut (f + 2) (ns.flatMap (tnO t)) 0 (m * 2) k := cut_tr (by rw [flat_len (tnO_length t), hm]) (trL_flat (trL_tnO f t) ns) hk
def fnR {ι : Type} (t : TypeId) (z : Nat) (args : ι → List AV) (pre : ι → Prop) (n : ι → Nat) (cells : ι → List AV) : CSpec :=
  { ι := ι, inout := [], args := args, ins := fun _ => [], pre := pre, post := fun x r ic news => ic = [] ∧ r = .ref 0 0 0 (n x) ∧ news = [⟨0, t, z, cells x⟩] }
def fnRB {ι : Type} (t : TypeId) (z : Nat) (args : ι → List AV) (pre : ι → Prop) (n : ι → Nat) (cells : ι → List AV) (b : ι → Bool) : CSpec :=
  { ι := ι, inout := [], args := args, ins := fun _ => [], pre := pre, post := fun x r ic news => ic = [] ∧ r = .tup [.ref 0 0 0 (n x), .bool (b x)] ∧ news = [⟨0, t, z, cells x⟩] }
def fnR2 {ι : Type} (t : TypeId) (z : Nat) (t' : TypeId) (z' : Nat) (args : ι → List AV) (pre : ι → Prop) (n n' : ι → Nat) (cells cells' : ι → List AV) : CSpec :=
  { ι := ι, inout := [], args := args, ins := fun _ => [], pre := pre, post := fun x r ic news => ic = [] ∧ r = .agg [.ref 0 0 0 (n x), .ref 1 0 0 (n' x)] ∧ news = [⟨0, t, z, cells x⟩, ⟨0, t', z', cells' x⟩] }
theorem news_prot {env : List AV} {rows : List Row} {ctr low : Nat} {T : List Nat} {t : TypeId} {z : Nat} {cells : List AV} (h : protL cells = true) : (⟨env, rows, ctr, low⟩ : St).news T [⟨0, t, z, cells⟩] = [⟨ctr, t, z, cells⟩] := by
  simp [St.news, protL_back h]
theorem news_prot2 {env : List AV} {rows : List Row} {ctr low : Nat} {T : List Nat} {t t' : TypeId} {z z' : Nat} {cells cells' : List AV} (h : protL cells = true) (h' : protL cells' = true) : (⟨env, rows, ctr, low⟩ : St).news T [⟨0, t, z, cells⟩, ⟨0, t', z', cells'⟩] = [⟨ctr, t, z, cells⟩, ⟨ctr, t', z', cells'⟩] := by
  simp [St.news, protL_back h, protL_back h']
section
variable {P : Program} {f : FuncId} {ι : Type} {t t' : TypeId} {z z' : Nat} {args : ι → List AV} {pre : ι → Prop} {n n' : ι → Nat} {cells cells' : ι → List AV} {b : ι → Bool} {env : List AV} {rows : List Row} {ctr low : Nat} {k : AV → St → Prop}
theorem callR_in (hs : Sound P f (fnR t z args pre n cells)) (x : ι) (hpre : pre x) (hp : protL (cells x) = true)
    (hk : k (.ref rows.length ctr 0 (n x)) ⟨env, rows ++ [⟨ctr, t, z, cells x⟩], ctr + 1, low⟩) : CallB P f ⟨env, rows, ctr, low⟩ (args x) k := callB_in (sp := fnR t z args pre n cells) hs rfl x rfl hpre (by
  rintro r news ⟨-, rfl, rfl⟩
  rw [news_prot hp]
  simpa [AV.back, backT, backV] using hk)
theorem callRB_in (hs : Sound P f (fnRB t z args pre n cells b)) (x : ι) (hpre : pre x) (hp : protL (cells x) = true)
    (hk : k (.tup [.ref rows.length ctr 0 (n x), .bool (b x)]) ⟨env, rows ++ [⟨ctr, t, z, cells x⟩], ctr + 1, low⟩) : CallB P f ⟨env, rows, ctr, low⟩ (args x) k := callB_in (sp := fnRB t z args pre n cells b) hs rfl x rfl hpre (by
  rintro r news ⟨-, rfl, rfl⟩
  rw [news_prot hp]
  simpa [AV.back, backL, backT, backV] using hk)
theorem callR2_in (hs : Sound P f (fnR2 t z t' z' args pre n n' cells cells')) (x : ι) (hpre : pre x) (hp : protL (cells x) = true) (hp' : protL (cells' x) = true)
    (hk : k (.agg [.ref rows.length ctr 0 (n x), .ref (rows.length + 1) ctr 0 (n' x)]) ⟨env, rows ++ [⟨ctr, t, z, cells x⟩, ⟨ctr, t', z', cells' x⟩], ctr + 1, low⟩) : CallB P f ⟨env, rows, ctr, low⟩ (args x) k := callB_in (sp := fnR2 t z t' z' args pre n n' cells cells') hs rfl x rfl hpre (by
  rintro r news ⟨-, rfl, rfl⟩
  rw [news_prot2 hp hp']
  simpa [AV.back, backL, backT, backV, Nat.add_comm] using hk)
end
theorem retR {env : List AV} {rows : List Row} {ctr τ ver m m' z : Nat} {t : TypeId} {cells cells' : List AV} (hr : rows[τ]? = some ⟨ver, t, z, cells⟩) (hp : protL cells = true) (hm : m = m') (hc : cells = cells') :
    RetB ⟨env, rows, ctr, 0⟩ [] (fun r ic news => ic = [] ∧ r = .ref 0 0 0 m' ∧ news = [⟨0, t, z, cells'⟩]) (.ref τ ver 0 m) := by
  subst hm; subst hc
  refine retP1 (Q := fun r news => r = .ref 0 0 0 m ∧ news = [⟨0, t, z, cells⟩]) (L := [τ]) (by simp) ?_ ?_ ⟨rfl, rfl⟩
  · simp [insOf, hr, protL_ren hp]
  · simp [AV.ren, hr]
theorem retRB {env : List AV} {rows : List Row} {ctr τ ver m m' z : Nat} {t : TypeId} {cells cells' : List AV} {b b' : Bool} (hr : rows[τ]? = some ⟨ver, t, z, cells⟩) (hp : protL cells = true) (hm : m = m') (hc : cells = cells') (hb : b = b') :
    RetB ⟨env, rows, ctr, 0⟩ [] (fun r ic news => ic = [] ∧ r = .tup [.ref 0 0 0 m', .bool b'] ∧ news = [⟨0, t, z, cells'⟩]) (.tup [.ref τ ver 0 m, .bool b]) := by
  subst hm; subst hc; subst hb
  refine retP1 (Q := fun r news => r = .tup [.ref 0 0 0 m, .bool b] ∧ news = [⟨0, t, z, cells⟩]) (L := [τ]) (by simp) ?_ ?_ ⟨rfl, rfl⟩
  · simp [insOf, hr, protL_ren hp]
  · simp [AV.ren, renL, hr]
theorem retR2 {env : List AV} {rows : List Row} {ctr τ ver τ' ver' m1 m2 m1' m2' z z' : Nat} {t t' : TypeId} {cells cells1 cells' cells1' : List AV} (hne : τ ≠ τ') (hr : rows[τ]? = some ⟨ver, t, z, cells⟩) (hr' : rows[τ']? = some ⟨ver', t', z', cells'⟩) (hp : protL cells = true) (hp' : protL cells' = true) (hm : m1 = m1') (hm' : m2 = m2') (hc : cells = cells1) (hc' : cells' = cells1') :
    RetB ⟨env, rows, ctr, 0⟩ [] (fun r ic news => ic = [] ∧ r = .agg [.ref 0 0 0 m1', .ref 1 0 0 m2'] ∧ news = [⟨0, t, z, cells1⟩, ⟨0, t', z', cells1'⟩]) (.agg [.ref τ ver 0 m1, .ref τ' ver' 0 m2]) := by
  subst hm; subst hm'; subst hc; subst hc'
  refine retP1 (Q := fun r news => r = .agg [.ref 0 0 0 m1, .ref 1 0 0 m2] ∧ news = [⟨0, t, z, cells⟩, ⟨0, t', z', cells'⟩]) (L := [τ, τ']) (by simpa using hne) ?_ ?_ ⟨rfl, rfl⟩
  · simp [insOf, hr, hr', protL_ren hp, protL_ren hp']
  · have : (τ == τ') = false := by simpa using hne
    simp [AV.ren, renL, hr, hr', List.idxOf, List.findIdx_cons, this]
def fnMR {ι : Type} (t : TypeId) (z : Nat) (n : ι → Nat) (cells : ι → List AV) (m : ι → Int) (pre : ι → Prop) (r : ι → Int) (cells' : ι → List AV) : CSpec :=
  { ι := ι, inout := [true], args := fun x => [.ref 0 0 0 (n x), .int .i64 (m x)], ins := fun x => [⟨0, t, z, cells x⟩], pre := pre, post := fun x u ic news => u = .int .i64 (r x) ∧ ic = [cells' x] ∧ news = [] }
theorem callMR_in {P : Program} {f : FuncId} {ι : Type} {t : TypeId} {z : Nat} {n : ι → Nat} {cells : ι → List AV} {m : ι → Int} {pre : ι → Prop} {r : ι → Int} {cells' : ι → List AV} (hs : Sound P f (fnMR t z n cells m pre r cells')) (x : ι) (hpre : pre x) (hp : protL (cells x) = true) (hp' : protL (cells' x) = true) {env : List AV} {rows : List Row} {ctr low τ ver n1 : Nat} {i : Int} {k : AV → St → Prop}
    (hr : rows[τ]? = some ⟨ver, t, z, cells x⟩) (hn : n1 = n x) (hi : i = m x) (hk : k (.int .i64 (r x)) ⟨env, setRows rows [τ] [cells' x], ctr + 1, low⟩) :
    CallG P f ⟨env, rows, ctr, low⟩ [.ref τ ver 0 n1, .int .i64 i] k := by
  subst hn; subst hi
  refine .inr ⟨[τ], _, hs, [.ref 0 0 0 (n x), .int .i64 (m x)], [⟨0, t, z, cells x⟩], by simp, ?_, ?_, x, rfl, rfl, hpre, ?_⟩
  · have e1 : callArg ⟨env, rows, ctr, low⟩ [τ] true (.ref τ ver 0 (n x)) = some (.ref 0 0 0 (n x)) := by
      simp [callArg, AV.ren, hr]
    show (callArg ⟨env, rows, ctr, low⟩ [τ] true (.ref τ ver 0 (n x))).bind _ = _
    rw [e1]
    rfl
  · simp [insOf, hr, protL_ren hp]
  · rintro u ic news ⟨rfl, rfl, rfl⟩ _
    show k (.int .i64 (r x)) ⟨env, setRows rows [τ] [backL _ [τ] (cells' x)] ++ [], ctr + 1, low⟩
    rw [List.append_nil, protL_back hp']; exact hk
theorem retMR {env : List AV} {ctr : Nat} {t : TypeId} {z : Nat} {cells cells1 cells' : List AV} {ver : Nat} {rest : List Row} {i i' : Int} (hp : protL cells1 = true) (e : i = i') (hc : cells1 = cells') :
    RetB ⟨env, ⟨ver, t, z, cells1⟩ :: rest, ctr, 1⟩ [⟨0, t, z, cells⟩] (fun u ic news => u = .int .i64 i' ∧ ic = [cells'] ∧ news = []) (.int .i64 i) := by
  subst e; subst hc
  refine RetB1.ret ⟨[], [⟨0, t, z, cells1⟩], .int .i64 i, [cells1], [], (show ([0] : List Nat).Nodup by decide), ?_, rfl, rfl, rfl, rfl, rfl, rfl⟩
  show insOf _ [0] [0] = _
  simp [insOf, protL_ren hp]
end Go.Am
