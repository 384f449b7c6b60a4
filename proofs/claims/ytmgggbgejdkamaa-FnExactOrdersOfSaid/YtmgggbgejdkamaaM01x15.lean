import Derived.Test.YtmgggbgejdkamaaM01x14
import Derived.Test.YtmgggbgejdkamaaM01x13
import Derived.Test.YtmgggbgejdkamaaM01x12
/- Chapter 4: what the laws do with index sums. -/
namespace Go.Am
open Go.RowKit
abbrev Sm := List Int × List (List Int) × List Int
def smRows (t tt : TypeId) (v : Nat) (M : Sm) : List Row := [⟨v, t, 1, M.1.map (.int .i64)⟩, ⟨v, tt, 1, M.2.1.map (ownI t)⟩, ⟨v, t, 1, M.2.2.map (.int .i64)⟩]
/-- An index sum in three new rows; the same and a bool. -/
def fnIS {ι : Type} (t tt : TypeId) (args : ι → List AV) (pre : ι → Prop) (M : ι → Sm) : CSpec :=
  { ι := ι, inout := [], args := args, ins := fun _ => [], pre := pre, post := fun x r ic news => ic = [] ∧ r = .agg [.ref 0 0 0 (M x).1.length, .ref 1 0 0 (M x).2.1.length, .ref 2 0 0 (M x).2.2.length] ∧ news = smRows t tt 0 (M x) }
def fnISB {ι : Type} (t tt : TypeId) (args : ι → List AV) (pre : ι → Prop) (M : ι → Sm) (b : ι → Bool) : CSpec :=
  { ι := ι, inout := [], args := args, ins := fun _ => [], pre := pre, post := fun x r ic news => ic = [] ∧ r = .tup [.agg [.ref 0 0 0 (M x).1.length, .ref 1 0 0 (M x).2.1.length, .ref 2 0 0 (M x).2.2.length], .bool (b x)] ∧ news = smRows t tt 0 (M x) }
theorem news_sm {env : List AV} {rows : List Row} {ctr low : Nat} {T : List Nat} {t tt : TypeId} {M : Sm} : (⟨env, rows, ctr, low⟩ : St).news T (smRows t tt 0 M) = smRows t tt ctr M := by
  simp [smRows, St.news, protL_back (protL_ints .i64 M.1), protL_back (protL_oi t M.2.1), protL_back (protL_ints .i64 M.2.2)]
section
variable {P : Program} {f : FuncId} {ι : Type} {t tt : TypeId} {args : ι → List AV} {pre : ι → Prop} {M : ι → Sm} {b : ι → Bool} {env : List AV} {rows : List Row} {ctr low : Nat} {k : AV → St → Prop}
theorem callIS_in (hs : Sound P f (fnIS t tt args pre M)) (x : ι) (hpre : pre x)
    (hk : k (.agg [.ref rows.length ctr 0 (M x).1.length, .ref (rows.length + 1) ctr 0 (M x).2.1.length, .ref (rows.length + 2) ctr 0 (M x).2.2.length]) ⟨env, rows ++ smRows t tt ctr (M x), ctr + 1, low⟩) : CallB P f ⟨env, rows, ctr, low⟩ (args x) k := callB_in (sp := fnIS t tt args pre M) hs rfl x rfl hpre (by
  rintro r news ⟨-, rfl, rfl⟩
  rw [news_sm]
  simpa [AV.back, backL, backT, backV, Nat.add_comm] using hk)
theorem callISB_in (hs : Sound P f (fnISB t tt args pre M b)) (x : ι) (hpre : pre x)
    (hk : k (.tup [.agg [.ref rows.length ctr 0 (M x).1.length, .ref (rows.length + 1) ctr 0 (M x).2.1.length, .ref (rows.length + 2) ctr 0 (M x).2.2.length], .bool (b x)]) ⟨env, rows ++ smRows t tt ctr (M x), ctr + 1, low⟩) : CallB P f ⟨env, rows, ctr, low⟩ (args x) k := callB_in (sp := fnISB t tt args pre M b) hs rfl x rfl hpre (by
  rintro r news ⟨-, rfl, rfl⟩
  rw [news_sm]
  simpa [AV.back, backL, backT, backV, Nat.add_comm] using hk)
end
theorem retIS {env : List AV} {rows : List Row} {ctr τ1 τ2 τ3 v1 v2 v3 n1 n2 n3 : Nat} {t tt : TypeId} {xs zs : List Int} {yss : List (List Int)} {M : Sm} (hM : M = (xs, yss, zs)) (h12 : τ1 ≠ τ2) (h13 : τ1 ≠ τ3) (h23 : τ2 ≠ τ3) (h1 : rows[τ1]? = some ⟨v1, t, 1, xs.map (.int .i64)⟩) (h2 : rows[τ2]? = some ⟨v2, tt, 1, yss.map (ownI t)⟩) (h3 : rows[τ3]? = some ⟨v3, t, 1, zs.map (.int .i64)⟩)
    (e1 : n1 = xs.length) (e2 : n2 = yss.length) (e3 : n3 = zs.length) :
    RetB ⟨env, rows, ctr, 0⟩ [] (fun r ic news => ic = [] ∧ r = .agg [.ref 0 0 0 M.1.length, .ref 1 0 0 M.2.1.length, .ref 2 0 0 M.2.2.length] ∧ news = smRows t tt 0 M) (.agg [.ref τ1 v1 0 n1, .ref τ2 v2 0 n2, .ref τ3 v3 0 n3]) := by
  subst hM; subst e1; subst e2; subst e3
  refine retP1 (Q := fun r news => r = .agg [.ref 0 0 0 xs.length, .ref 1 0 0 yss.length, .ref 2 0 0 zs.length] ∧ news = smRows t tt 0 (xs, yss, zs)) (L := [τ1, τ2, τ3]) (by simp [h12, h13, h23]) ?_ ?_ ⟨rfl, rfl⟩
  · simp [insOf, smRows, h1, h2, h3, protL_ren (protL_ints .i64 xs), protL_ren (protL_oi t yss), protL_ren (protL_ints .i64 zs)]
  · have a : (τ1 == τ2) = false := by simpa using h12
    have b : (τ1 == τ3) = false := by simpa using h13
    have c : (τ2 == τ3) = false := by simpa using h23
    simp [AV.ren, renL, h1, h2, h3, List.idxOf, List.findIdx_cons, a, b, c]
theorem retISB {env : List AV} {rows : List Row} {ctr τ1 τ2 τ3 v1 v2 v3 n1 n2 n3 : Nat} {t tt : TypeId} {xs zs : List Int} {yss : List (List Int)} {M : Sm} {b b' : Bool} (hM : M = (xs, yss, zs)) (hb : b = b') (h12 : τ1 ≠ τ2) (h13 : τ1 ≠ τ3) (h23 : τ2 ≠ τ3) (h1 : rows[τ1]? = some ⟨v1, t, 1, xs.map (.int .i64)⟩) (h2 : rows[τ2]? = some ⟨v2, tt, 1, yss.map (ownI t)⟩) (h3 : rows[τ3]? = some ⟨v3, t, 1, zs.map (.int .i64)⟩)
    (e1 : n1 = xs.length) (e2 : n2 = yss.length) (e3 : n3 = zs.length) :
    RetB ⟨env, rows, ctr, 0⟩ [] (fun r ic news => ic = [] ∧ r = .tup [.agg [.ref 0 0 0 M.1.length, .ref 1 0 0 M.2.1.length, .ref 2 0 0 M.2.2.length], .bool b'] ∧ news = smRows t tt 0 M) (.tup [.agg [.ref τ1 v1 0 n1, .ref τ2 v2 0 n2, .ref τ3 v3 0 n3], .bool b]) := by
  subst hM; subst e1; subst e2; subst e3; subst hb
  refine retP1 (Q := fun r news => r = .tup [.agg [.ref 0 0 0 xs.length, .ref 1 0 0 yss.length, .ref 2 0 0 zs.length], .bool b] ∧ news = smRows t tt 0 (xs, yss, zs)) (L := [τ1, τ2, τ3]) (by simp [h12, h13, h23]) ?_ ?_ ⟨rfl, rfl⟩
  · simp [insOf, smRows, h1, h2, h3, protL_ren (protL_ints .i64 xs), protL_ren (protL_oi t yss), protL_ren (protL_ints .i64 zs)]
  · have a : (τ1 == τ2) = false := by simpa using h12
    have b : (τ1 == τ3) = false := by simpa using h13
    have c : (τ2 == τ3) = false := by simpa using h23
    simp [AV.ren, renL, h1, h2, h3, List.idxOf, List.findIdx_cons, a, b, c]
/-- A call that writes into the three rows of an index sum, and answers a number. -/
def fnMS {ι : Type} (t tt : TypeId) (M : ι → Sm) (m : ι → Int) (pre : ι → Prop) (r : ι → Int) (M' : ι → Sm) : CSpec :=
  { ι := ι, inout := [true], args := fun x => [.agg [.ref 0 0 0 (M x).1.length, .ref 1 0 0 (M x).2.1.length, .ref 2 0 0 (M x).2.2.length], .int .i64 (m x)], ins := fun x => smRows t tt 0 (M x), pre := pre, post := fun x u ic news => u = .int .i64 (r x) ∧ ic = [(M' x).1.map (.int .i64), (M' x).2.1.map (ownI t), (M' x).2.2.map (.int .i64)] ∧ news = [] }
theorem callMS_in {P : Program} {f : FuncId} {ι : Type} {t tt : TypeId} {M M' : ι → Sm} {m : ι → Int} {pre : ι → Prop} {r : ι → Int} (hs : Sound P f (fnMS t tt M m pre r M')) (x : ι) (hpre : pre x) {env : List AV} {rows : List Row} {ctr low τ1 τ2 τ3 v1 v2 v3 n1 n2 n3 : Nat} {i : Int} {k : AV → St → Prop}
    (h1 : rows[τ1]? = some ⟨v1, t, 1, (M x).1.map (.int .i64)⟩) (h2 : rows[τ2]? = some ⟨v2, tt, 1, (M x).2.1.map (ownI t)⟩) (h3 : rows[τ3]? = some ⟨v3, t, 1, (M x).2.2.map (.int .i64)⟩) (h12 : τ1 ≠ τ2) (h13 : τ1 ≠ τ3) (h23 : τ2 ≠ τ3) (e1 : n1 = (M x).1.length) (e2 : n2 = (M x).2.1.length) (e3 : n3 = (M x).2.2.length) (hi : i = m x)
    (hk : k (.int .i64 (r x)) ⟨env, setRows rows [τ1, τ2, τ3] [(M' x).1.map (.int .i64), (M' x).2.1.map (ownI t), (M' x).2.2.map (.int .i64)], ctr + 1, low⟩) :
    CallG P f ⟨env, rows, ctr, low⟩ [.agg [.ref τ1 v1 0 n1, .ref τ2 v2 0 n2, .ref τ3 v3 0 n3], .int .i64 i] k := by
  subst e1; subst e2; subst e3; subst hi
  refine .inr ⟨[τ1, τ2, τ3], _, hs, [.agg [.ref 0 0 0 (M x).1.length, .ref 1 0 0 (M x).2.1.length, .ref 2 0 0 (M x).2.2.length], .int .i64 (m x)], smRows t tt 0 (M x), by simp [h12, h13, h23], ?_, ?_, x, rfl, rfl, hpre, ?_⟩
  · have a : (τ1 == τ2) = false := by simpa using h12
    have b : (τ1 == τ3) = false := by simpa using h13
    have c : (τ2 == τ3) = false := by simpa using h23
    have ea : callArg ⟨env, rows, ctr, low⟩ [τ1, τ2, τ3] true (.agg [.ref τ1 v1 0 (M x).1.length, .ref τ2 v2 0 (M x).2.1.length, .ref τ3 v3 0 (M x).2.2.length]) = some (.agg [.ref 0 0 0 (M x).1.length, .ref 1 0 0 (M x).2.1.length, .ref 2 0 0 (M x).2.2.length]) := by
      simp [callArg, AV.ren, renL, h1, h2, h3, List.idxOf, List.findIdx_cons, a, b, c]
    show (callArg ⟨env, rows, ctr, low⟩ [τ1, τ2, τ3] true (.agg [.ref τ1 v1 0 (M x).1.length, .ref τ2 v2 0 (M x).2.1.length, .ref τ3 v3 0 (M x).2.2.length])).bind _ = _
    rw [ea]
    rfl
  · simp [insOf, smRows, h1, h2, h3, protL_ren (protL_ints .i64 (M x).1), protL_ren (protL_oi t (M x).2.1), protL_ren (protL_ints .i64 (M x).2.2)]
  · rintro u ic news ⟨rfl, rfl, rfl⟩ _
    show k (.int .i64 (r x)) ⟨env, setRows rows [τ1, τ2, τ3] [backL _ [τ1, τ2, τ3] ((M' x).1.map (.int .i64)), backL _ [τ1, τ2, τ3] ((M' x).2.1.map (ownI t)), backL _ [τ1, τ2, τ3] ((M' x).2.2.map (.int .i64))] ++ [], ctr + 1, low⟩
    rw [List.append_nil, protL_back (protL_ints _ _), protL_back (protL_oi _ _), protL_back (protL_ints _ _)]; exact hk
theorem retMS {env : List AV} {ctr : Nat} {t tt : TypeId} {M M' : Sm} {v1 v2 v3 : Nat} {rest : List Row} {us ws : List Int} {vss : List (List Int)} {i i' : Int} (e : i = i') (hM : M' = (us, vss, ws)) :
    RetB ⟨env, ⟨v1, t, 1, us.map (.int .i64)⟩ :: ⟨v2, tt, 1, vss.map (ownI t)⟩ :: ⟨v3, t, 1, ws.map (.int .i64)⟩ :: rest, ctr, 3⟩ (smRows t tt 0 M) (fun u ic news => u = .int .i64 i' ∧ ic = [M'.1.map (.int .i64), M'.2.1.map (ownI t), M'.2.2.map (.int .i64)] ∧ news = []) (.int .i64 i) := by
  subst e; subst hM
  refine RetB1.ret ⟨[], [⟨0, t, 1, us.map (.int .i64)⟩, ⟨0, tt, 1, vss.map (ownI t)⟩, ⟨0, t, 1, ws.map (.int .i64)⟩], .int .i64 i, [us.map (.int .i64), vss.map (ownI t), ws.map (.int .i64)], [], (show ([0, 1, 2] : List Nat).Nodup by decide), ?_, rfl, rfl, rfl, rfl, rfl, rfl⟩
  show insOf _ [0, 1, 2] [0, 1, 2] = _
  simp [insOf, protL_ren (protL_ints .i64 us), protL_ren (protL_oi t vss), protL_ren (protL_ints .i64 ws)]
end Go.Am
namespace Go.Proofs.Ytmgggbgejdkamaa
set_option maxRecDepth 20000
open Go.RowKit Go.Am
attribute [local irreducible] aPlan aGet aIf aLoop aCall RetB NextB CallB CallG aCut aSet aAppend
def isSize (zs : List Int) (fs : List (List Int)) (o : List Int) : Nat := zs.length + (fs.length + tot fs) + o.length
set_option maxRecDepth 10000 in
theorem szIndexSum_sound : Sound Try.prog 15 (fnP (ι := IS × Int) (fun | ((c, zs, d, fs, e, o), m) => [.agg [.sl c zs.length (zs.map (.int .i64)), .sl d fs.length (fs.map (slI d)), .sl e o.length (o.map (.int .i64))], .int .i64 m]) (fun | (_, m) => 0 ≤ m ∧ m ≤ 1048576) (fun | ((_, zs, _, fs, _, o), m) => leftN (isSize zs fs o) m)) := by
  refine sound_of Try.func15 rfl (enters_of Try.func15 (by kernel_rfl) (by kernel_rfl)) ?_
  rintro ⟨⟨c, zs, d, fs, e, o⟩, m⟩ hpre
  have hpre : 0 ≤ m ∧ m ≤ 1048576 := hpre
  conv => whnf
  repeat' (first
    | (refine aGet_in rfl ?_; conv => whnf)
    | (refine And.intro rfl (And.intro (List.cons_ne_nil _ _) ?_); conv => whnf)
    | (refine callG_t ?_; conv => whnf)
    | (refine szIntS_call (by omega) (fun _ _ => ?_); conv => whnf)
    | (refine append_same ?_; conv => whnf)
    | (refine And.intro (pureL_ii _ _) ?_; conv => whnf)
    | (refine szIntSS_call (by omega) (fun _ _ => ?_); conv => whnf)
    | (refine And.intro (pureL_ints _ _) ?_; conv => whnf)
    | (refine aIf_dec (fun _ => ?_) (fun _ => ?_) <;> conv => whnf))
  · exact retP1 (L := []) (by simp) rfl rfl ⟨_, rfl, rfl, .inl (by decide)⟩
  · exact retP1 (L := []) (by simp) rfl rfl ⟨_, rfl, rfl, .inl (by decide)⟩
  · exact retP1 (L := []) (by simp) rfl rfl ⟨_, rfl, rfl, .inl (by decide)⟩
  · exact retP1 (L := []) (by simp) rfl rfl ⟨_, rfl, rfl, .inr (by unfold isSize; omega)⟩
theorem szIndexSum_call {c d e : Nat} {zs o : List Int} {fs : List (List Int)} {m : Int} {env : List AV} {rows : List Row} {ctr low : Nat} {k : AV → St → Prop} (hpre : 0 ≤ m ∧ m ≤ 1048576) (hk : ∀ q : Int, (q < 0 ∨ (0 ≤ q ∧ q = m - ((isSize zs fs o : Nat) : Int))) → k (.int .i64 q) ⟨env, rows, ctr + 1, low⟩) :
    CallB Try.prog 15 ⟨env, rows, ctr, low⟩ [.agg [.sl c zs.length (zs.map (.int .i64)), .sl d fs.length (fs.map (slI d)), .sl e o.length (o.map (.int .i64))], .int .i64 m] k := callP_in szIndexSum_sound ((c, zs, d, fs, e, o), m) hpre (by
  rintro r news ⟨n, rfl, rfl, h⟩
  simpa [AV.back, St.news] using hk n h)
theorem toIndexSum_sound : Sound Try.prog 18 (fnIS (ι := IS) 3 22 (fun | (c, zs, d, fs, e, o) => [.agg [.sl c zs.length (zs.map (.int .i64)), .sl d fs.length (fs.map (slI d)), .sl e o.length (o.map (.int .i64))]]) (fun | (_, zs, _, fs, _, o) => isSize zs fs o ≤ 1048576) (fun | (_, zs, _, fs, _, o) => (zs, fs, o))) := by
  refine sound_of Try.func18 rfl (enters_of Try.func18 (by kernel_rfl) (by kernel_rfl)) ?_
  rintro ⟨c, zs, d, fs, e, o⟩ hpre
  have hpre : zs.length + (fs.length + tot fs) + o.length ≤ 1048576 := hpre
  conv => whnf
  repeat' (first
    | (refine aGet_in rfl ?_; conv => whnf)
    | (refine load_same ?_; conv => whnf)
    | (refine And.intro rfl (And.intro (List.cons_ne_nil _ _) ?_); conv => whnf)
    | (refine And.intro (Nat.le_of_ble_eq_true rfl) ?_; conv => whnf)
    | (refine callG_t ?_; conv => whnf)
    | (refine append_same ?_; conv => whnf)
    | (refine And.intro (pureL_ii _ _) ?_; conv => whnf)
    | (refine toIntSS_call (by constructor <;> omega) ?_; conv => whnf)
    | (refine takeN_in ?_; conv => whnf)
    | (refine And.intro (pureL_ints _ _) ?_; conv => whnf)
    | (refine toIntS_call (by omega) ?_; conv => whnf)
    | (refine set_force ?_; conv => whnf)
    | (refine And.intro (by kernel_rfl) ?_; conv => whnf))
  exact retIS rfl (by decide) (by decide) (by decide) rfl rfl rfl rfl rfl rfl
theorem toIndexSum_call {c d e : Nat} {zs o : List Int} {fs : List (List Int)} {env : List AV} {rows : List Row} {ctr low : Nat} {k : AV → St → Prop} (hpre : isSize zs fs o ≤ 1048576) (h : k (.agg [.ref rows.length ctr 0 zs.length, .ref (rows.length + 1) ctr 0 fs.length, .ref (rows.length + 2) ctr 0 o.length]) ⟨env, rows ++ [⟨ctr, 3, 1, zs.map (.int .i64)⟩, ⟨ctr, 22, 1, fs.map (ownI 3)⟩, ⟨ctr, 3, 1, o.map (.int .i64)⟩], ctr + 1, low⟩) :
    CallB Try.prog 18 ⟨env, rows, ctr, low⟩ [.agg [.sl c zs.length (zs.map (.int .i64)), .sl d fs.length (fs.map (slI d)), .sl e o.length (o.map (.int .i64))]] k := callIS_in toIndexSum_sound (c, zs, d, fs, e, o) hpre h
set_option maxRecDepth 10000 in
theorem eqIndexSum_sound : Sound Try.prog 21 (fnS (ι := IS × IS) (fun | ((c, zs, d, fs, e, o), (c', zs', d', fs', e', o')) => [.agg [.sl c zs.length (zs.map (.int .i64)), .sl d fs.length (fs.map (slI d)), .sl e o.length (o.map (.int .i64))], .agg [.sl c' zs'.length (zs'.map (.int .i64)), .sl d' fs'.length (fs'.map (slI d')), .sl e' o'.length (o'.map (.int .i64))]]) (fun _ => True) (fun | ((_, zs, _, fs, _, o), (_, zs', _, fs', _, o')) => .bool (decide ((zs, fs, o) = (zs', fs', o'))))) := by
  refine sound_of Try.func21 rfl (enters_of Try.func21 (by kernel_rfl) (by kernel_rfl)) ?_
  rintro ⟨⟨c, zs, d, fs, e, o⟩, ⟨c', zs', d', fs', e', o'⟩⟩ -
  conv => whnf
  repeat' (first
    | (refine aGet_in rfl ?_; conv => whnf)
    | (refine And.intro rfl (And.intro (List.cons_ne_nil _ _) ?_); conv => whnf)
    | (refine callG_t ?_; conv => whnf)
    | (refine append_same ?_; conv => whnf)
    | (refine And.intro (pureL_ii _ _) ?_; conv => whnf)
    | (refine eqIntSS_call trivial ?_; conv => whnf)
    | (refine And.intro (pureL_ints _ _) ?_; conv => whnf)
    | (refine eqIntS_call ?_; conv => whnf)
    | refine aIf_not ?_
    | (refine aIf_dec (fun _ => ?_) (fun _ => ?_) <;> conv => whnf))
  all_goals refine retS rfl (congrArg AV.bool ?_)
  all_goals simp_all
theorem eqIndexSum_call {c d e c' d' e' : Nat} {zs o zs' o' : List Int} {fs fs' : List (List Int)} {env : List AV} {rows : List Row} {ctr low : Nat} {k : AV → St → Prop} (h : k (.bool (decide ((zs, fs, o) = (zs', fs', o')))) ⟨env, rows, ctr + 1, low⟩) :
    CallB Try.prog 21 ⟨env, rows, ctr, low⟩ [.agg [.sl c zs.length (zs.map (.int .i64)), .sl d fs.length (fs.map (slI d)), .sl e o.length (o.map (.int .i64))], .agg [.sl c' zs'.length (zs'.map (.int .i64)), .sl d' fs'.length (fs'.map (slI d')), .sl e' o'.length (o'.map (.int .i64))]] k := callS_in eqIndexSum_sound ((c, zs, d, fs, e, o), (c', zs', d', fs', e', o')) trivial rfl h
def sMarkS : CSpec := fnMS (ι := List Int × List (List Int) × List Int × Int) 3 22 (fun x => (x.1, x.2.1, x.2.2.1)) (fun x => x.2.2.2) (fun x => isSize x.1 x.2.1 x.2.2.1 ≤ 1048576 ∧ 0 ≤ x.2.2.2 ∧ x.2.2.2 ≤ 1000000) (fun x => x.2.2.2 + x.1.length + tot x.2.1 + x.2.2.1.length) (fun x => (marks x.2.2.2 x.1.length, marksII (x.2.2.2 + x.1.length) x.2.1, marks (x.2.2.2 + x.1.length + tot x.2.1) x.2.2.1.length))
set_option maxHeartbeats 4000000 in
theorem markIndexSum_sound : Sound Try.prog 25 sMarkS := by
  refine sound_of Try.func25 rfl (enters_of Try.func25 (by kernel_rfl) (by kernel_rfl)) ?_
  rintro ⟨zs, fs, o, m⟩ hpre
  have hpre : zs.length + (fs.length + tot fs) + o.length ≤ 1048576 ∧ 0 ≤ m ∧ m ≤ 1000000 := hpre
  conv => whnf
  dsimp only
  repeat' (first
    | (refine aGet_in rfl ?_; conv => whnf)
    | (refine And.intro rfl (And.intro (List.cons_ne_nil _ _) ?_); conv => whnf)
    | (refine mark_call rfl (by rfl) (by omega) ?_; conv => whnf)
    | (refine markII_call rfl rfl (by omega) ?_; conv => whnf)
    | (refine append_same ?_; conv => whnf))
  exact retMS rfl rfl
theorem markIndexSum_call {zs o : List Int} {fs : List (List Int)} {m : Int} {env : List AV} {rows : List Row} {ctr low τ1 τ2 τ3 v1 v2 v3 n1 n2 n3 : Nat} {k : AV → St → Prop} (h1 : rows[τ1]? = some ⟨v1, 3, 1, zs.map (.int .i64)⟩) (h2 : rows[τ2]? = some ⟨v2, 22, 1, fs.map (ownI 3)⟩) (h3 : rows[τ3]? = some ⟨v3, 3, 1, o.map (.int .i64)⟩) (h12 : τ1 ≠ τ2) (h13 : τ1 ≠ τ3) (h23 : τ2 ≠ τ3) (e1 : n1 = zs.length) (e2 : n2 = fs.length) (e3 : n3 = o.length) (hpre : isSize zs fs o ≤ 1048576 ∧ 0 ≤ m ∧ m ≤ 1000000)
    (hk : k (.int .i64 (m + zs.length + tot fs + o.length)) ⟨env, setRows rows [τ1, τ2, τ3] [(marks m zs.length).map (.int .i64), (marksII (m + zs.length) fs).map (ownI 3), (marks (m + zs.length + tot fs) o.length).map (.int .i64)], ctr + 1, low⟩) : CallG Try.prog 25 ⟨env, rows, ctr, low⟩ [.agg [.ref τ1 v1 0 n1, .ref τ2 v2 0 n2, .ref τ3 v3 0 n3], .int .i64 m] k :=
  callMS_in markIndexSum_sound (zs, fs, o, m) hpre h1 h2 h3 h12 h13 h23 e1 e2 e3 rfl hk
end Go.Proofs.Ytmgggbgejdkamaa

/- TurnShape. -/
namespace Go.Proofs.Ytmgggbgejdkamaa
set_option maxRecDepth 20000
open Go.RowKit Go.Am
attribute [local irreducible] aPlan aGet aIf aLoop aCall RetB NextB CallB CallG aCut aSet

def turned (xs ax : List Int) : List Int := ax.map fun a => xs.getD a.toNat 0
theorem turned_length (xs ax : List Int) : (turned xs ax).length = ax.length := by simp [turned]
theorem turned_getD {xs ax : List Int} {j : Nat} (h : j < ax.length) : (turned xs ax).getD j 0 = xs.getD (ax.getD j 0).toNat 0 := by
  simp [turned, List.getD, List.getElem?_map, List.getElem?_eq_getElem h]
def tsOk (xs ax : List Int) : Bool := shapeOk xs && turnOk ax xs.length
def tsL (xs ax : List Int) : List Int := if tsOk xs ax = true then turned xs ax else []
theorem tsL_t {xs ax : List Int} (h : shapeOk xs = true) (h' : turnOk ax xs.length = true) : tsL xs ax = turned xs ax ∧ true = tsOk xs ax := ⟨if_pos (by unfold tsOk; rw [h, h']; rfl), by unfold tsOk; rw [h, h']; rfl⟩
theorem tsL_f1 {xs ax : List Int} (h : shapeOk xs = false) : tsL xs ax = [] ∧ false = tsOk xs ax := ⟨if_neg (by unfold tsOk; rw [h, Bool.false_and]; decide), by unfold tsOk; rw [h]; rfl⟩
theorem tsL_f2 {xs ax : List Int} (h' : turnOk ax xs.length = false) : tsL xs ax = [] ∧ false = tsOk xs ax := ⟨if_neg (by unfold tsOk; rw [h', Bool.and_false]; decide), by unfold tsOk; rw [h', Bool.and_false]⟩
theorem tsL_le (xs ax : List Int) : (tsL xs ax).length ≤ ax.length := by
  unfold tsL; split
  · exact Nat.le_of_eq (turned_length _ _)
  · exact Nat.zero_le _

def sTurnShape : CSpec := fnLB (ι := Nat × List Int × Nat × List Int) 3 (fun | (c, xs, d, ax) => [.sl c xs.length (xs.map (.int .i64)), .sl d ax.length (ax.map (.int .i64))]) (fun | (_, xs, _, ax) => xs.length ≤ 1048576 ∧ ax.length ≤ 1048576) (fun | (_, xs, _, ax) => tsL xs ax) (fun | (_, xs, _, ax) => tsOk xs ax)
theorem ts_end {env : List AV} {rows : List Row} {ctr τ ver : Nat} {xs ax zs' : List Int} {b : Bool} {r : Row} {n : Nat} (e1 : tsL xs ax = zs' ∧ b = tsOk xs ax) (hr : rows[τ]? = some r) (hv : r.ver = ver) (e : r = ⟨ver, 3, 1, zs'.map (.int .i64)⟩) (hn : n = zs'.length) :
    RetB ⟨env, rows, ctr, 0⟩ [] (fun r ic news => r = .tup [.ref 0 0 0 (tsL xs ax).length, .bool (tsOk xs ax)] ∧ ic = [] ∧ news = [⟨0, 3, 1, (tsL xs ax).map (.int .i64)⟩]) (.tup [.ref τ ver 0 n, .bool b]) := by
  rw [e1.1]; exact retLB hr hv e hn e1.2

theorem pickNums_sound : Sound Try.prog 95 (fnL (ι := Nat × List Int × Nat × List Int) 3 (fun | (c, xs, d, ax) => [.sl c xs.length (xs.map (.int .i64)), .sl d ax.length (ax.map (.int .i64))]) (fun | (_, xs, _, ax) => ax.length ≤ 1048576 ∧ ∀ j, j < ax.length → 0 ≤ ax.getD j 0 ∧ ax.getD j 0 < xs.length) (fun | (_, xs, _, ax) => turned xs ax)) := by
  refine sound_of Try.func95 rfl (enters_of Try.func95 (by kernel_rfl) (by kernel_rfl)) ?_
  rintro ⟨c, xs, d, ax⟩ hpre
  obtain ⟨hpl, hin⟩ : ax.length ≤ 1048576 ∧ ∀ j, j < ax.length → 0 ≤ ax.getD j 0 ∧ ax.getD j 0 < xs.length := hpre
  have hmax : maxLen = 9223372036854775807 := rfl
  conv => whnf
  repeat' (first
    | (refine fun (_ : _ ≤ maxLen) => ?_; conv => whnf)
    | (refine And.intro (And.intro (Int.le_refl _) (And.intro (by kernel_rfl) (And.intro rfl (by kernel_rfl)))) (And.intro (And.intro (by omega) (And.intro (bytes_le (b := 8) rfl (by omega)) (by omega))) ?_); conv => whnf)
    | (refine append_same ?_; conv => whnf))
  refine loop_u (ι := Nat × List Int) [true, false, false, false, false, true, false, false, false, false, false, true, true, true, false, false, false, false, false, false, false, false, false, false, false, false, false] (fun | (k, _) => [(13, .int .i64 k)]) (fun | (_, ws) => [(1, ws.map (.int .i64))]) (fun | (k, ws) => k ≤ ax.length ∧ ws.length = ax.length ∧ ∀ j, j < k → ws.getD j 0 = xs.getD (ax.getD j 0).toNat 0) (fun x => ax.length - x.1) ((0, List.replicate ax.length 0)) ⟨Nat.zero_le _, by simp, fun j hj => absurd hj (Nat.not_lt_zero _)⟩ ?_ ?_
  · conv => whnf
    repeat' (first
      | exact trivial
      | exact rfl
      | exact pureL_ints _ _
      | exact Or.inl (And.intro rfl rfl)
      | exact le_ints (rep_ints _ _)
      | refine And.intro ?_ ?_
      | exact Nat.le_of_ble_eq_true rfl)
  · rintro ⟨k, ws⟩ ⟨hk, hl, hall⟩
    have hk : k ≤ ax.length := hk
    have hl : ws.length = ax.length := hl
    have hall : ∀ j, j < k → ws.getD j 0 = xs.getD (ax.getD j 0).toNat 0 := hall
    have hink := hin k
    by_cases hlt : k < ax.length
    · have hink := hink hlt
      conv => whnf
      repeat' (first
        | (refine get_nat (by omega) ?_; conv => whnf)
        | (refine get_int (by omega) ?_; conv => whnf)
        | (refine And.intro (by omega) ?_; conv => whnf)
        | (refine append_same ?_; conv => whnf)
        | (refine And.intro rfl (And.intro rfl (And.intro (by first | omega | (rw [List.length_map]; omega)) ?_)); conv => whnf)
        | (refine set_nat ?_ (by omega); conv => whnf)
        | (refine aIf_dec (fun _ => ?_) (fun _ => ?_) <;> conv => whnf))
      all_goals (first | (exfalso; omega) | skip)
      refine next_u (k + 1, ws.set k (xs.getD (ax.getD k 0).toNat 0)) (show ax.length - (k + 1) < ax.length - k by omega) ⟨(show k + 1 ≤ ax.length by omega), by simpa using hl, fun j hj => ?_⟩ ?_
      · have hj : j < k + 1 := hj
        show (ws.set k (xs.getD (ax.getD k 0).toNat 0)).getD j 0 = _
        rw [getD_set (by omega)]
        split
        · rename_i e; rw [e]
        · exact hall j (by omega)
      · conv => whnf
        repeat' (first
          | exact trivial
          | exact rfl
          | exact pureL_ints _ _
          | exact Or.inl (And.intro rfl rfl)
          | exact le_ints rfl
          | refine And.intro ?_ ?_
          | exact Nat.le_of_ble_eq_true rfl
          | exact int_eq (by rw [IntWalk.i64_in _ (by omega)] <;> omega))
    · have e : k = ax.length := by omega
      have e : ws = turned xs ax := getD_ext (by rw [turned_length, hl]) fun j hj => by
        rw [turned_length] at hj
        rw [hall j (by omega), turned_getD hj]
      subst e
      conv => whnf
      repeat' (first
        | (refine get_nat (by omega) ?_; conv => whnf)
        | (refine And.intro (by omega) ?_; conv => whnf)
        | (refine append_same ?_; conv => whnf)
        | (refine set_nat ?_ (by omega); conv => whnf)
        | (refine aIf_dec (fun _ => ?_) (fun _ => ?_) <;> conv => whnf))
      all_goals (first | (exfalso; omega) | skip)
      exact retL rfl rfl rfl hl.symm
theorem pickNums_call {c d : Nat} {xs ax : List Int} {env : List AV} {rows : List Row} {ctr low : Nat} {k : AV → St → Prop} (hpre : ax.length ≤ 1048576 ∧ ∀ j, j < ax.length → 0 ≤ ax.getD j 0 ∧ ax.getD j 0 < xs.length) (h : k (.ref rows.length ctr 0 (turned xs ax).length) ⟨env, rows ++ [⟨ctr, 3, 1, (turned xs ax).map (.int .i64)⟩], ctr + 1, low⟩) :
    CallB Try.prog 95 ⟨env, rows, ctr, low⟩ [.sl c xs.length (xs.map (.int .i64)), .sl d ax.length (ax.map (.int .i64))] k := callL_in pickNums_sound (c, xs, d, ax) hpre h
end Go.Proofs.Ytmgggbgejdkamaa

/- Chapter 5: mathematics: letters numbered anew, two factors put together. -/
namespace Go.Proofs.Ytmgggbgejdkamaa
set_option maxRecDepth 20000
open Go.RowKit Go.Am
set_option linter.unusedSimpArgs false

theorem mem_getD {α : Type} {d : α} {l : List α} {k : Nat} (h : k < l.length) : l.getD k d ∈ l := by
  simp only [List.getD, List.getElem?_eq_getElem h, Option.getD_some]
  exact List.getElem_mem _
theorem getD_mem {α : Type} {d : α} {l : List α} {x : α} (h : x ∈ l) : ∃ k, k < l.length ∧ l.getD k d = x := by
  obtain ⟨k, hk, e⟩ := List.mem_iff_getElem.1 h
  exact ⟨k, hk, by simp [List.getD, List.getElem?_eq_getElem hk, e]⟩
/-- Different indexes, said by lists. -/
theorem difP_iff (ls : List Int) (n : Int) : difP ls n ↔ (∀ l ∈ ls, 0 ≤ l ∧ l < n) ∧ ls.Nodup := by
  constructor
  · intro h
    refine ⟨fun l hl => ?_, ?_⟩
    · obtain ⟨k, hk, rfl⟩ := getD_mem (d := (0 : Int)) hl
      exact (h k hk).1
    · unfold List.Nodup
      rw [List.pairwise_iff_getElem]
      intro i j hi hj hij e
      refine (h j hj).2 ?_
      have e1 : ls.getD j 0 = ls[j] := by simp [List.getD, List.getElem?_eq_getElem hj]
      rw [e1, ← e]
      rw [List.mem_take_iff_getElem]
      exact ⟨i, by omega, rfl⟩
  · rintro ⟨h1, h2⟩ i hi
    refine ⟨h1 _ (mem_getD hi), fun hm => ?_⟩
    rw [List.mem_take_iff_getElem] at hm
    obtain ⟨j, hj, e⟩ := hm
    unfold List.Nodup at h2
    rw [List.pairwise_iff_getElem] at h2
    have e1 : ls.getD i 0 = ls[i] := by simp [List.getD, List.getElem?_eq_getElem hi]
    rw [e1] at e
    exact h2 j i (by omega) hi (by omega) e

/-! Ranks: how many letters below a letter are used. -/
def rk (fs : List (List Int)) : Nat → Nat
  | 0 => 0
  | i + 1 => if usedP fs i then rk fs i + 1 else rk fs i
theorem rk_t {fs : List (List Int)} {i : Nat} (h : usedP fs i) : rk fs (i + 1) = rk fs i + 1 := if_pos h
theorem rk_f {fs : List (List Int)} {i : Nat} (h : ¬ usedP fs i) : rk fs (i + 1) = rk fs i := if_neg h
theorem rk_le (fs : List (List Int)) : ∀ i, rk fs i ≤ i
  | 0 => Nat.le_refl _
  | i + 1 => by
    have := rk_le fs i
    by_cases h : usedP fs i
    · rw [rk_t h]; omega
    · rw [rk_f h]; omega
theorem rk_step (fs : List (List Int)) (i : Nat) : rk fs i ≤ rk fs (i + 1) := by
  by_cases h : usedP fs i
  · rw [rk_t h]; omega
  · rw [rk_f h]; omega
theorem rk_mono (fs : List (List Int)) {i j : Nat} (h : i ≤ j) : rk fs i ≤ rk fs j := by
  induction h with
  | refl => exact Nat.le_refl _
  | step _ ih => exact Nat.le_trans ih (rk_step fs _)
theorem rk_lt {fs : List (List Int)} {i j : Nat} (hu : usedP fs i) (h : i < j) : rk fs i < rk fs j := by
  have := rk_mono fs (show i + 1 ≤ j from h)
  rw [rk_t hu] at this; omega
theorem rk_inj {fs : List (List Int)} {i j : Nat} (hi : usedP fs i) (hj : usedP fs j) (h : rk fs i = rk fs j) : i = j := by
  rcases Nat.lt_trichotomy i j with h1 | h1 | h1
  · have := rk_lt hi h1; omega
  · exact h1
  · have := rk_lt hj h1; omega
theorem rk_surj {fs : List (List Int)} {m : Nat} : ∀ n, m < rk fs n → ∃ j, j < n ∧ usedP fs j ∧ rk fs j = m
  | 0, h => absurd h (Nat.not_lt_zero _)
  | n + 1, h => by
    by_cases hu : usedP fs n
    · rw [rk_t hu] at h
      rcases Nat.lt_succ_iff_lt_or_eq.1 h with h1 | h1
      · obtain ⟨j, a, b, c⟩ := rk_surj n h1
        exact ⟨j, by omega, b, c⟩
      · exact ⟨n, Nat.lt_succ_self _, hu, h1.symm⟩
    · rw [rk_f hu] at h
      obtain ⟨j, a, b, c⟩ := rk_surj n h
      exact ⟨j, by omega, b, c⟩
def ownZ (zs : List Int) (fs : List (List Int)) : Nat → List Int
  | 0 => []
  | i + 1 => if usedP fs i then ownZ zs fs i ++ [zs.getD i 0] else ownZ zs fs i
theorem ownZ_t {zs : List Int} {fs : List (List Int)} {i : Nat} (h : usedP fs i) : ownZ zs fs (i + 1) = ownZ zs fs i ++ [zs.getD i 0] := if_pos h
theorem ownZ_f {zs : List Int} {fs : List (List Int)} {i : Nat} (h : ¬ usedP fs i) : ownZ zs fs (i + 1) = ownZ zs fs i := if_neg h
theorem ownZ_length (zs : List Int) (fs : List (List Int)) : ∀ i, (ownZ zs fs i).length = rk fs i
  | 0 => rfl
  | i + 1 => by
    by_cases h : usedP fs i
    · rw [ownZ_t h, rk_t h, List.length_append, ownZ_length zs fs i]; rfl
    · rw [ownZ_f h, rk_f h, ownZ_length zs fs i]
theorem ownZ_getD {zs : List Int} {fs : List (List Int)} {j : Nat} (hu : usedP fs j) : ∀ i, j < i → (ownZ zs fs i).getD (rk fs j) 0 = zs.getD j 0
  | 0, h => absurd h (Nat.not_lt_zero _)
  | i + 1, h => by
    have hl := ownZ_length zs fs i
    by_cases h1 : usedP fs i
    · rw [ownZ_t h1]
      rcases Nat.lt_succ_iff_lt_or_eq.1 h with h2 | h2
      · have := rk_lt hu h2
        rw [← ownZ_getD hu i h2]
        simp only [List.getD]
        rw [List.getElem?_append_left (by omega)]
      · subst h2
        simp only [List.getD]
        rw [List.getElem?_append_right (by omega), hl, Nat.sub_self]; rfl
    · rw [ownZ_f h1]
      rcases Nat.lt_succ_iff_lt_or_eq.1 h with h2 | h2
      · exact ownZ_getD hu i h2
      · subst h2; exact absurd hu h1
theorem ownZ_mem {zs : List Int} {fs : List (List Int)} {x : Int} : ∀ i, i ≤ zs.length → x ∈ ownZ zs fs i → x ∈ zs
  | 0, _, h => by cases h
  | i + 1, hi, h => by
    by_cases h1 : usedP fs i
    · rw [ownZ_t h1] at h
      rcases List.mem_append.1 h with h | h
      · exact ownZ_mem i (by omega) h
      · rw [List.mem_singleton.1 h]; exact mem_getD (by omega)
    · rw [ownZ_f h1] at h
      exact ownZ_mem i (by omega) h
/-- The new numbers of letters, as a list. -/
def toTo (fs : List (List Int)) (n : Nat) : Nat → List Int
  | 0 => List.replicate n 0
  | i + 1 => if usedP fs i then (toTo fs n i).set i (rk fs i : Int) else toTo fs n i
theorem toTo_t {fs : List (List Int)} {n i : Nat} (h : usedP fs i) : toTo fs n (i + 1) = (toTo fs n i).set i (rk fs i : Int) := if_pos h
theorem toTo_f {fs : List (List Int)} {n i : Nat} (h : ¬ usedP fs i) : toTo fs n (i + 1) = toTo fs n i := if_neg h
theorem toTo_length (fs : List (List Int)) (n : Nat) : ∀ i, (toTo fs n i).length = n
  | 0 => by simp [toTo]
  | i + 1 => by
    by_cases h : usedP fs i
    · rw [toTo_t h, List.length_set, toTo_length fs n i]
    · rw [toTo_f h, toTo_length fs n i]
theorem toTo_getD {fs : List (List Int)} {n j : Nat} (hj : j < n) (hu : usedP fs j) : ∀ i, j < i → (toTo fs n i).getD j 0 = (rk fs j : Int)
  | 0, h => absurd h (Nat.not_lt_zero _)
  | i + 1, h => by
    have hl := toTo_length fs n i
    by_cases h1 : usedP fs i
    · rw [toTo_t h1]
      by_cases h2 : i = j
      · subst h2
        rw [getD_setG (by omega), if_pos rfl]
      · have e : ((toTo fs n i).set i (rk fs i : Int)).getD j 0 = (toTo fs n i).getD j 0 := by
          simp only [List.getD]; rw [List.getElem?_set, if_neg h2]
        rw [e]; exact toTo_getD hj hu i (by omega)
    · rw [toTo_f h1]
      by_cases h2 : i = j
      · subst h2; exact absurd hu h1
      · exact toTo_getD hj hu i (by omega)
def ren (fs : List (List Int)) (l : Int) : Int := (rk fs l.toNat : Int)
/-- Letters that are there, and used. -/
def ltsL (fs : List (List Int)) (n : Nat) (ls : List Int) : Prop := ∀ l ∈ ls, (0 ≤ l ∧ l < n) ∧ usedP fs l
theorem turned_ren {fs : List (List Int)} {n : Nat} {ls : List Int} (h : ltsL fs n ls) : turned (toTo fs n n) ls = ls.map (ren fs) := by
  unfold turned
  refine List.map_congr_left fun l hl => ?_
  obtain ⟨⟨h1, h2⟩, h3⟩ := h l hl
  have e : ((l.toNat : Nat) : Int) = l := by omega
  exact toTo_getD (by omega) (by rw [e]; exact h3) n (by omega)
def ownM (zs : List Int) (fs : List (List Int)) (o : List Int) : Sm := (ownZ zs fs zs.length, fs.map (turned (toTo fs zs.length zs.length)), turned (toTo fs zs.length zs.length) o)
theorem ownM_eq {zs : List Int} {fs : List (List Int)} {o : List Int} (hf : ∀ f ∈ fs, ltsL fs zs.length f) (ho : ltsL fs zs.length o) : ownM zs fs o = (ownZ zs fs zs.length, fs.map (List.map (ren fs)), o.map (ren fs)) := by
  unfold ownM
  rw [turned_ren ho, List.map_congr_left fun f hf' => turned_ren (hf f hf')]
theorem ren_inj {fs : List (List Int)} {n : Nat} {l l' : Int} (h : (0 ≤ l ∧ l < n) ∧ usedP fs l) (h' : (0 ≤ l' ∧ l' < n) ∧ usedP fs l') (e : ren fs l = ren fs l') : l = l' := by
  have e1 : ((l.toNat : Nat) : Int) = l := by omega
  have e2 : ((l'.toNat : Nat) : Int) = l' := by omega
  have := rk_inj (fs := fs) (i := l.toNat) (j := l'.toNat) (by rw [e1]; exact h.2) (by rw [e2]; exact h'.2) (by unfold ren at e; omega)
  omega
theorem mem_ren {fs : List (List Int)} {n : Nat} {ls : List Int} (h : ltsL fs n ls) {i : Nat} (hi : i < n) (hu : usedP fs i) : ((rk fs i : Nat) : Int) ∈ ls.map (ren fs) ↔ (i : Int) ∈ ls := by
  rw [List.mem_map]
  constructor
  · rintro ⟨l, hl, e⟩
    have : l = (i : Int) := ren_inj (h l hl) ⟨by omega, hu⟩ (by rw [e]; unfold ren; simp)
    rw [← this]; exact hl
  · intro hl
    exact ⟨i, hl, by unfold ren; simp⟩
theorem used_ren {fs gs : List (List Int)} {n : Nat} (h : ∀ g ∈ gs, ltsL fs n g) {i : Nat} (hi : i < n) (hu : usedP fs i) : usedP (gs.map (List.map (ren fs))) ((rk fs i : Nat) : Int) ↔ usedP gs i := by
  unfold usedP
  constructor
  · rintro ⟨f, hf, hl⟩
    obtain ⟨g, hg, rfl⟩ := List.mem_map.1 hf
    exact ⟨g, hg, (mem_ren (h g hg) hi hu).1 hl⟩
  · rintro ⟨g, hg, hl⟩
    exact ⟨_, List.mem_map.2 ⟨g, hg, rfl⟩, (mem_ren (h g hg) hi hu).2 hl⟩
theorem used_of {fs gs : List (List Int)} {n : Nat} (h : ∀ g ∈ gs, ltsL fs n g) {i : Int} (hu : usedP gs i) : usedP fs i := by
  obtain ⟨g, hg, hl⟩ := hu
  exact (h g hg _ hl).2
/-- Numbered anew twice. -/
theorem rk_comp {fs gs : List (List Int)} {n : Nat} (h : ∀ g ∈ gs, ltsL fs n g) : ∀ i, i ≤ n → rk (gs.map (List.map (ren fs))) (rk fs i) = rk gs i
  | 0, _ => rfl
  | i + 1, hi => by
    have ih := rk_comp h i (by omega)
    by_cases hu : usedP fs i
    · rw [rk_t hu]
      by_cases hg : usedP gs i
      · rw [rk_t ((used_ren h (by omega) hu).2 hg), rk_t hg, ih]
      · rw [rk_f (fun h' => hg ((used_ren h (by omega) hu).1 h')), rk_f hg, ih]
    · rw [rk_f hu, rk_f (fun h' => hu (used_of h h')), ih]
theorem ownZ_comp {zs : List Int} {fs gs : List (List Int)} (h : ∀ g ∈ gs, ltsL fs zs.length g) : ∀ i, i ≤ zs.length → ownZ (ownZ zs fs zs.length) (gs.map (List.map (ren fs))) (rk fs i) = ownZ zs gs i
  | 0, _ => rfl
  | i + 1, hi => by
    have ih := ownZ_comp h i (by omega)
    by_cases hu : usedP fs i
    · rw [rk_t hu]
      by_cases hg : usedP gs i
      · rw [ownZ_t ((used_ren h (by omega) hu).2 hg), ownZ_t hg, ih, ownZ_getD hu _ (by omega)]
      · rw [ownZ_f (fun h' => hg ((used_ren h (by omega) hu).1 h')), ownZ_f hg, ih]
    · rw [rk_f hu, ownZ_f (fun h' => hu (used_of h h')), ih]
theorem ren_comp {fs gs : List (List Int)} {n : Nat} (h : ∀ g ∈ gs, ltsL fs n g) {ls : List Int} (hl : ltsL fs n ls) : (ls.map (ren fs)).map (ren (gs.map (List.map (ren fs)))) = ls.map (ren gs) := by
  rw [List.map_map]
  refine List.map_congr_left fun l hl' => ?_
  obtain ⟨h1, h2⟩ := hl l hl'
  show ren _ (ren fs l) = ren gs l
  unfold ren
  rw [Int.toNat_natCast]
  have := rk_comp h l.toNat (by omega)
  unfold ren at this
  rw [this]
theorem ltsL_ren {fs gs : List (List Int)} {n : Nat} (h : ∀ g ∈ gs, ltsL fs n g) {ls : List Int} (hl : ltsL gs n ls) : ltsL (gs.map (List.map (ren fs))) (rk fs n) (ls.map (ren fs)) := by
  intro l hl'
  obtain ⟨l0, h0, rfl⟩ := List.mem_map.1 hl'
  obtain ⟨h1, h2⟩ := hl l0 h0
  have e1 : ((l0.toNat : Nat) : Int) = l0 := by omega
  have hu : usedP fs (l0.toNat : Nat) := by rw [e1]; exact used_of h h2
  have := rk_lt hu (show l0.toNat < n by omega)
  refine ⟨by unfold ren; omega, ?_⟩
  unfold ren
  exact (used_ren h (by omega) hu).2 (by rw [e1]; exact h2)
theorem own_comp {zs : List Int} {fs gs : List (List Int)} {o : List Int} (h : ∀ g ∈ gs, ltsL fs zs.length g) (hg : ∀ g ∈ gs, ltsL gs zs.length g) (ho : ltsL gs zs.length o) :
    ownM (ownZ zs fs zs.length) (gs.map (List.map (ren fs))) (o.map (ren fs)) = ownM zs gs o := by
  have hl := ownZ_length zs fs zs.length
  have hof : ltsL fs zs.length o := fun l hl => ⟨(ho l hl).1, used_of h (ho l hl).2⟩
  rw [ownM_eq hg ho, ownM_eq (by
    intro g' hg'
    obtain ⟨g, hg0, rfl⟩ := List.mem_map.1 hg'
    rw [hl]; exact ltsL_ren h (hg g hg0)) (by rw [hl]; exact ltsL_ren h ho)]
  refine Prod.ext ?_ (Prod.ext ?_ ?_)
  · show ownZ (ownZ zs fs zs.length) _ (ownZ zs fs zs.length).length = _
    rw [hl]; exact ownZ_comp h _ (Nat.le_refl _)
  · show (gs.map _).map _ = gs.map _
    rw [List.map_map]
    refine List.map_congr_left fun g hg0 => ?_
    exact ren_comp h (h g hg0)
  · exact ren_comp h hof

/-! What an index sum on the way is. -/
structure okP (zs : List Int) (fs : List (List Int)) (o : List Int) : Prop where
  z5 : zs.length ≤ 5
  zb : btw zs 1 3 = true
  f1 : 1 ≤ fs.length
  f4 : fs.length ≤ 4
  fl : ∀ f ∈ fs, letP f zs.length
  ol : letP o zs.length
  ou : ∀ l ∈ o, usedP fs l
theorem okP_f {zs : List Int} {fs : List (List Int)} {o : List Int} (h : okP zs fs o) : ∀ f ∈ fs, ltsL fs zs.length f := fun f hf l hl => ⟨((difP_iff _ _).1 (h.fl f hf).2).1 l hl, f, hf, hl⟩
theorem okP_o {zs : List Int} {fs : List (List Int)} {o : List Int} (h : okP zs fs o) : ltsL fs zs.length o := fun l hl => ⟨((difP_iff _ _).1 h.ol.2).1 l hl, h.ou l hl⟩
theorem okP_of {zs : List Int} {fs : List (List Int)} {o : List Int} (h : sumP zs fs o) : okP zs fs o := by
  obtain ⟨h1, h2, ⟨h3, h4⟩, h5, h6, h7⟩ := h
  refine ⟨h1, h2, h3, h4, h6, h5, fun l hl => ?_⟩
  have := ((difP_iff _ _).1 h5.2).1 l hl
  have e : ((l.toNat : Nat) : Int) = l := by omega
  rw [← e]; exact h7 _ (by omega)
theorem ren_let {fs : List (List Int)} {n : Nat} {ls : List Int} (hl : letP ls n) (h : ltsL fs n ls) : letP (ls.map (ren fs)) (rk fs n) := by
  refine ⟨by rw [List.length_map]; exact hl.1, (difP_iff _ _).2 ⟨fun l hl' => ?_, ?_⟩⟩
  · obtain ⟨l0, h0, rfl⟩ := List.mem_map.1 hl'
    obtain ⟨h1, h2⟩ := h l0 h0
    have e1 : ((l0.toNat : Nat) : Int) = l0 := by omega
    have := rk_lt (fs := fs) (i := l0.toNat) (by rw [e1]; exact h2) (show l0.toNat < n by omega)
    unfold ren; omega
  · have hn := ((difP_iff _ _).1 hl.2).2
    unfold List.Nodup at hn ⊢
    rw [List.pairwise_map]
    refine List.Pairwise.imp_of_mem (fun {a b} ha hb hab e => hab ?_) hn
    exact ren_inj (h a ha) (h b hb) e
theorem own_sumP {zs : List Int} {fs : List (List Int)} {o : List Int} (h : okP zs fs o) : sumP (ownM zs fs o).1 (ownM zs fs o).2.1 (ownM zs fs o).2.2 := by
  have hf := okP_f h
  have ho := okP_o h
  rw [ownM_eq hf ho]
  have hl := ownZ_length zs fs zs.length
  have hrl := rk_le fs zs.length
  refine ⟨by show (ownZ zs fs zs.length).length ≤ 5; have := h.z5; omega, ?_, ⟨by show 1 ≤ (fs.map _).length; rw [List.length_map]; exact h.f1, by show (fs.map _).length ≤ 4; rw [List.length_map]; exact h.f4⟩, ?_, ?_, ?_⟩
  · refine btw_t fun i hi => ?_
    have hm := ownZ_mem zs.length (Nat.le_refl _) (mem_getD (d := (0 : Int)) hi)
    obtain ⟨k, hk, e⟩ := getD_mem (d := (0 : Int)) hm
    have hb := (btw_iff _ _ _).1 h.zb k hk
    show 1 ≤ (ownZ zs fs zs.length).getD i 0 ∧ (ownZ zs fs zs.length).getD i 0 ≤ 3
    rw [← e]; exact hb
  · show letP _ ((ownZ zs fs zs.length).length : Nat)
    rw [hl]; exact ren_let h.ol ho
  · intro g hg
    obtain ⟨f, hf0, rfl⟩ := List.mem_map.1 hg
    show letP _ ((ownZ zs fs zs.length).length : Nat)
    rw [hl]; exact ren_let (h.fl f hf0) (hf f hf0)
  · intro m hm
    have hm : m < (ownZ zs fs zs.length).length := hm
    rw [hl] at hm
    obtain ⟨j, h1, h2, rfl⟩ := rk_surj zs.length hm
    exact (used_ren hf h1 h2).2 h2
theorem rk_all {fs : List (List Int)} {n : Nat} (h : takenP fs n) : ∀ i, i ≤ n → rk fs i = i
  | 0, _ => rfl
  | i + 1, hi => by rw [rk_t (h i (by omega)), rk_all h i (by omega)]
theorem ownZ_all {zs : List Int} {fs : List (List Int)} (h : takenP fs zs.length) : ∀ i, i ≤ zs.length → ownZ zs fs i = zs.take i
  | 0, _ => by simp [ownZ]
  | i + 1, hi => by
    rw [ownZ_t (h i (by omega)), ownZ_all h i (by omega), List.take_add_one, getD_eq (d := (0 : Int)) (by omega)]; rfl
theorem own_id {zs : List Int} {fs : List (List Int)} {o : List Int} (h : sumP zs fs o) : ownM zs fs o = (zs, fs, o) := by
  have hok := okP_of h
  have hf := okP_f hok
  have ho := okP_o hok
  have ht := h.2.2.2.2.2
  have hid : ∀ ls : List Int, ltsL fs zs.length ls → ls.map (ren fs) = ls := fun ls hl => by
    conv => rhs; rw [← List.map_id ls]
    refine List.map_congr_left fun l hl' => ?_
    have := (hl l hl').1
    show (rk fs l.toNat : Int) = l
    rw [rk_all ht _ (by omega)]; omega
  rw [ownM_eq hf ho, ownZ_all ht _ (Nat.le_refl _), List.take_length, hid o ho]
  congr 2
  conv => rhs; rw [← List.map_id fs]
  exact List.map_congr_left fun f hf0 => hid f (hf f hf0)

/-! Two factors put together. -/
def lfP (fs : List (List Int)) (o : List Int) (a b l : Int) : Prop := (l ∈ fs.getD a.toNat [] ∨ l ∈ fs.getD b.toNat []) ∧ (l ∈ o ∨ ∃ k, k < fs.length ∧ ((k : Int) ≠ a ∧ (k : Int) ≠ b) ∧ l ∈ fs.getD k [])
instance (fs : List (List Int)) (o : List Int) (a b l : Int) : Decidable (lfP fs o a b l) := by unfold lfP; infer_instance
def lfTo (fs : List (List Int)) (o : List Int) (a b : Int) : Nat → List Int
  | 0 => []
  | i + 1 => if lfP fs o a b i then lfTo fs o a b i ++ [(i : Int)] else lfTo fs o a b i
theorem lfTo_t {fs : List (List Int)} {o : List Int} {a b : Int} {i : Nat} (h : lfP fs o a b i) : lfTo fs o a b (i + 1) = lfTo fs o a b i ++ [(i : Int)] := if_pos h
theorem lfTo_f {fs : List (List Int)} {o : List Int} {a b : Int} {i : Nat} (h : ¬ lfP fs o a b i) : lfTo fs o a b (i + 1) = lfTo fs o a b i := if_neg h
theorem lfTo_len (fs : List (List Int)) (o : List Int) (a b : Int) : ∀ n, (lfTo fs o a b n).length ≤ n
  | 0 => Nat.le_refl _
  | n + 1 => by
    have := lfTo_len fs o a b n
    by_cases h : lfP fs o a b n
    · rw [lfTo_t h, List.length_append]; simp; omega
    · rw [lfTo_f h]; omega
theorem lfTo_mem {fs : List (List Int)} {o : List Int} {a b l : Int} : ∀ n, l ∈ lfTo fs o a b n ↔ (0 ≤ l ∧ l < (n : Int)) ∧ lfP fs o a b l
  | 0 => by
    constructor
    · intro h; cases h
    · rintro ⟨h, -⟩; omega
  | n + 1 => by
    have ih := lfTo_mem (fs := fs) (o := o) (a := a) (b := b) (l := l) n
    by_cases h : lfP fs o a b n
    · rw [lfTo_t h, List.mem_append, ih, List.mem_singleton]
      constructor
      · rintro (⟨h1, h2⟩ | rfl)
        · exact ⟨by omega, h2⟩
        · exact ⟨by omega, h⟩
      · rintro ⟨h1, h2⟩
        by_cases e : l = (n : Int)
        · exact .inr e
        · exact .inl ⟨by omega, h2⟩
    · rw [lfTo_f h, ih]
      constructor
      · rintro ⟨h1, h2⟩; exact ⟨by omega, h2⟩
      · rintro ⟨h1, h2⟩
        by_cases e : l = (n : Int)
        · subst e; exact absurd h2 h
        · exact ⟨by omega, h2⟩
theorem lfTo_nodup (fs : List (List Int)) (o : List Int) (a b : Int) : ∀ n, (lfTo fs o a b n).Nodup
  | 0 => List.nodup_nil
  | n + 1 => by
    have ih := lfTo_nodup fs o a b n
    by_cases h : lfP fs o a b n
    · rw [lfTo_t h, List.nodup_append]
      refine ⟨ih, by simp, fun x hx y hy => ?_⟩
      have := ((lfTo_mem n).1 hx).1
      rw [List.mem_singleton.1 hy]; omega
    · rw [lfTo_f h]; exact ih
def lfL (zs : List Int) (fs : List (List Int)) (o : List Int) (a b : Int) : List Int := lfTo fs o a b zs.length
theorem lfL_dif (zs : List Int) (fs : List (List Int)) (o : List Int) (a b : Int) : difP (lfL zs fs o a b) zs.length := (difP_iff _ _).2 ⟨fun _ hl => ((lfTo_mem _).1 hl).1, lfTo_nodup _ _ _ _ _⟩
def othTo (fs : List (List Int)) (a b : Int) : Nat → List (List Int)
  | 0 => []
  | k + 1 => if (k : Int) ≠ a ∧ (k : Int) ≠ b then othTo fs a b k ++ [fs.getD k []] else othTo fs a b k
theorem othTo_t {fs : List (List Int)} {a b : Int} {k : Nat} (h : (k : Int) ≠ a ∧ (k : Int) ≠ b) : othTo fs a b (k + 1) = othTo fs a b k ++ [fs.getD k []] := if_pos h
theorem othTo_f {fs : List (List Int)} {a b : Int} {k : Nat} (h : ¬ ((k : Int) ≠ a ∧ (k : Int) ≠ b)) : othTo fs a b (k + 1) = othTo fs a b k := if_neg h
theorem othTo_mem {fs : List (List Int)} {a b : Int} {f : List Int} : ∀ n, f ∈ othTo fs a b n ↔ ∃ k, k < n ∧ ((k : Int) ≠ a ∧ (k : Int) ≠ b) ∧ f = fs.getD k []
  | 0 => by
    constructor
    · intro h; cases h
    · rintro ⟨k, hk, -⟩; omega
  | n + 1 => by
    have ih := othTo_mem (fs := fs) (a := a) (b := b) (f := f) n
    by_cases h : (n : Int) ≠ a ∧ (n : Int) ≠ b
    · rw [othTo_t h, List.mem_append, ih, List.mem_singleton]
      constructor
      · rintro (⟨k, h1, h2, h3⟩ | rfl)
        · exact ⟨k, by omega, h2, h3⟩
        · exact ⟨n, by omega, h, rfl⟩
      · rintro ⟨k, h1, h2, h3⟩
        rcases Nat.lt_succ_iff_lt_or_eq.1 h1 with h4 | rfl
        · exact .inl ⟨k, h4, h2, h3⟩
        · exact .inr h3
    · rw [othTo_f h, ih]
      constructor
      · rintro ⟨k, h1, h2, h3⟩; exact ⟨k, by omega, h2, h3⟩
      · rintro ⟨k, h1, h2, h3⟩
        rcases Nat.lt_succ_iff_lt_or_eq.1 h1 with h4 | rfl
        · exact ⟨k, h4, h2, h3⟩
        · exact absurd h2 h
theorem othTo_len {fs : List (List Int)} {a b : Int} (hab : 0 ≤ a ∧ a < b) : ∀ n : Nat, (othTo fs a b n).length = n - (if a < n then 1 else 0) - (if b < n then 1 else 0)
  | 0 => by simp [othTo]
  | n + 1 => by
    have ih := othTo_len (fs := fs) hab n
    by_cases h : (n : Int) ≠ a ∧ (n : Int) ≠ b
    · rw [othTo_t h, List.length_append, ih]
      simp only [List.length_cons, List.length_nil]
      split <;> split <;> split <;> split <;> omega
    · rw [othTo_f h, ih]
      split <;> split <;> split <;> split <;> omega
def oth (fs : List (List Int)) (a b : Int) : List (List Int) := othTo fs a b fs.length
theorem oth_len {fs : List (List Int)} {a b : Int} (hab : 0 ≤ a ∧ a < b ∧ b < fs.length) : (oth fs a b).length + 2 = fs.length := by
  have := othTo_len (fs := fs) ⟨hab.1, hab.2.1⟩ fs.length
  rw [if_pos (by omega), if_pos (by omega)] at this
  unfold oth; omega
def pairM (zs : List Int) (fs : List (List Int)) (o : List Int) (a b : Int) : Sm := (zs, [fs.getD a.toNat [], fs.getD b.toNat []], lfL zs fs o a b)
def mergeM (zs : List Int) (fs : List (List Int)) (o : List Int) (a b : Int) : Sm := (zs, oth fs a b ++ [lfL zs fs o a b], o)
end Go.Proofs.Ytmgggbgejdkamaa

/- Chapter 5: mathematics: put together and numbered anew. -/
namespace Go.Proofs.Ytmgggbgejdkamaa
set_option maxRecDepth 20000
open Go.RowKit Go.Am
set_option linter.unusedSimpArgs false
theorem getD_mapL {g : List Int → List Int} (h0 : g [] = []) (fs : List (List Int)) (k : Nat) : (fs.map g).getD k [] = g (fs.getD k []) := by
  simp only [List.getD, List.getElem?_map]
  cases fs[k]? with
  | none => exact h0.symm
  | some f => rfl
theorem oth_map {g : List Int → List Int} (h0 : g [] = []) (fs : List (List Int)) (a b : Int) : ∀ n, othTo (fs.map g) a b n = (othTo fs a b n).map g
  | 0 => rfl
  | n + 1 => by
    by_cases h : (n : Int) ≠ a ∧ (n : Int) ≠ b
    · rw [othTo_t h, othTo_t h, oth_map h0 fs a b n, List.map_append, getD_mapL h0]; rfl
    · rw [othTo_f h, othTo_f h, oth_map h0 fs a b n]
theorem getD_ltsL {fs : List (List Int)} {n : Nat} (hf : ∀ f ∈ fs, ltsL fs n f) (k : Nat) : ltsL fs n (fs.getD k []) := by
  by_cases hk : k < fs.length
  · exact hf _ (mem_getD hk)
  · have : fs.getD k [] = [] := by simp [List.getD, List.getElem?_eq_none (Nat.le_of_not_lt hk)]
    rw [this]; intro l hl; cases hl
theorem lfP_used {fs : List (List Int)} {o : List Int} {n : Nat} (hf : ∀ f ∈ fs, ltsL fs n f) {a b l : Int} (h : lfP fs o a b l) : (0 ≤ l ∧ l < n) ∧ usedP fs l := by
  rcases h.1 with h | h
  · exact getD_ltsL hf _ l h
  · exact getD_ltsL hf _ l h
theorem lfP_ren {fs : List (List Int)} {o : List Int} {n : Nat} (hf : ∀ f ∈ fs, ltsL fs n f) (ho : ltsL fs n o) {a b : Int} {i : Nat} (hi : i < n) (hu : usedP fs i) : lfP (fs.map (List.map (ren fs))) (o.map (ren fs)) a b ((rk fs i : Nat) : Int) ↔ lfP fs o a b i := by
  unfold lfP
  rw [getD_mapL rfl, getD_mapL rfl, mem_ren (getD_ltsL hf _) hi hu, mem_ren (getD_ltsL hf _) hi hu, mem_ren ho hi hu, List.length_map]
  have key : ∀ k, ((rk fs i : Nat) : Int) ∈ (fs.map (List.map (ren fs))).getD k [] ↔ (i : Int) ∈ fs.getD k [] := fun k => by
    rw [getD_mapL rfl, mem_ren (getD_ltsL hf _) hi hu]
  simp only [key]
theorem lf_ren {fs : List (List Int)} {o : List Int} {n : Nat} (hf : ∀ f ∈ fs, ltsL fs n f) (ho : ltsL fs n o) {a b : Int} : ∀ i, i ≤ n → lfTo (fs.map (List.map (ren fs))) (o.map (ren fs)) a b (rk fs i) = (lfTo fs o a b i).map (ren fs)
  | 0, _ => rfl
  | i + 1, hi => by
    have ih := lf_ren hf ho (a := a) (b := b) i (by omega)
    by_cases hu : usedP fs i
    · rw [rk_t hu]
      by_cases h : lfP fs o a b i
      · rw [lfTo_t ((lfP_ren hf ho (by omega) hu).2 h), lfTo_t h, ih, List.map_append]
        unfold ren
        simp
      · rw [lfTo_f (fun h' => h ((lfP_ren hf ho (by omega) hu).1 h')), lfTo_f h, ih]
    · rw [rk_f hu, lfTo_f (fun h => hu (lfP_used hf h).2), ih]

/-! States. -/
def own (S : Sm) : Sm := ownM S.1 S.2.1 S.2.2
def mrg (S : Sm) (a b : Int) : Sm := mergeM S.1 S.2.1 S.2.2 a b
def pr (S : Sm) (a b : Int) : Sm := pairM S.1 S.2.1 S.2.2 a b
def okS (S : Sm) : Prop := okP S.1 S.2.1 S.2.2
def lfS (S : Sm) (a b : Int) : List Int := lfL S.1 S.2.1 S.2.2 a b
def rng (S : Sm) (a b : Int) : Prop := 0 ≤ a ∧ a < b ∧ b < S.2.1.length
theorem own_eq {S : Sm} (h : okS S) : own S = (ownZ S.1 S.2.1 S.1.length, S.2.1.map (List.map (ren S.2.1)), S.2.2.map (ren S.2.1)) := ownM_eq (okP_f h) (okP_o h)
theorem own_fl (S : Sm) : (own S).2.1.length = S.2.1.length := List.length_map _
theorem lf_own {S : Sm} (h : okS S) (a b : Int) : lfS (own S) a b = (lfS S a b).map (ren S.2.1) := by
  rw [own_eq h]
  show lfTo _ _ a b (ownZ S.1 S.2.1 S.1.length).length = _
  rw [ownZ_length]
  exact lf_ren (okP_f h) (okP_o h) _ (Nat.le_refl _)
theorem lf_own_len {S : Sm} (h : okS S) (a b : Int) : (lfS (own S) a b).length = (lfS S a b).length := by rw [lf_own h, List.length_map]
theorem getD_lts {S : Sm} (h : okS S) (k : Nat) : ltsL S.2.1 S.1.length (S.2.1.getD k []) := getD_ltsL (okP_f h) k
theorem used_at {fs : List (List Int)} {k : Nat} {l : Int} (h : l ∈ fs.getD k []) : usedP fs l := by
  by_cases hk : k < fs.length
  · exact ⟨_, mem_getD hk, h⟩
  · have : fs.getD k [] = [] := by simp [List.getD, List.getElem?_eq_none (Nat.le_of_not_lt hk)]
    rw [this] at h; cases h
/-- The letters of what is put together are letters of what was there. -/
theorem mrg_in {S : Sm} (h : okS S) (a b : Int) : ∀ g ∈ (mrg S a b).2.1, ltsL S.2.1 S.1.length g := by
  intro g hg l hl
  rcases List.mem_append.1 hg with hg | hg
  · obtain ⟨k, -, -, rfl⟩ := (othTo_mem _).1 hg
    exact getD_lts h k l hl
  · rw [List.mem_singleton.1 hg] at hl
    exact lfP_used (okP_f h) ((lfTo_mem _).1 hl).2
theorem self_in {S : Sm} {gs : List (List Int)} (h : ∀ g ∈ gs, ltsL S.2.1 S.1.length g) : ∀ g ∈ gs, ltsL gs S.1.length g := fun g hg l hl => ⟨(h g hg l hl).1, g, hg, hl⟩
theorem mrg_out {S : Sm} (h : okS S) {a b : Int} (_hab : 0 ≤ a ∧ 0 ≤ b) : ∀ l ∈ S.2.2, usedP (mrg S a b).2.1 l := by
  intro l hl
  obtain ⟨f, hf, hlf⟩ := h.ou l hl
  obtain ⟨k, hk, rfl⟩ := getD_mem (d := ([] : List Int)) hf
  by_cases hc : (k : Int) ≠ a ∧ (k : Int) ≠ b
  · exact ⟨_, List.mem_append.2 (.inl ((othTo_mem _).2 ⟨k, hk, hc, rfl⟩)), hlf⟩
  · refine ⟨_, List.mem_append.2 (.inr (List.mem_singleton.2 rfl)), (lfTo_mem _).2 ⟨(okP_o h l hl).1, ?_, .inl hl⟩⟩
    by_cases e : (k : Int) = a
    · left; rw [← e, Int.toNat_natCast]; exact hlf
    · right
      have e' : (k : Int) = b := by
        rcases Decidable.em ((k : Int) = b) with e' | e'
        · exact e'
        · exact absurd ⟨e, e'⟩ hc
      rw [← e', Int.toNat_natCast]; exact hlf
theorem mrg_outL {S : Sm} (h : okS S) {a b : Int} (hab : 0 ≤ a ∧ 0 ≤ b) : ltsL (mrg S a b).2.1 S.1.length S.2.2 := fun l hl => ⟨(okP_o h l hl).1, mrg_out h hab l hl⟩
theorem pr_in {S : Sm} (h : okS S) (a b : Int) : ∀ g ∈ (pr S a b).2.1, ltsL S.2.1 S.1.length g := by
  intro g hg
  have hg : g ∈ [S.2.1.getD a.toNat [], S.2.1.getD b.toNat []] := hg
  rcases List.mem_cons.1 hg with rfl | hg
  · exact getD_lts h _
  · rw [List.mem_singleton.1 hg]; exact getD_lts h _
theorem pr_outL {S : Sm} (_h : okS S) (a b : Int) : ltsL (pr S a b).2.1 S.1.length (lfS S a b) := by
  intro l hl
  have hl' := (lfTo_mem _).1 hl
  refine ⟨hl'.1, ?_⟩
  rcases hl'.2.1 with h1 | h1
  · exact ⟨_, List.mem_cons_self, h1⟩
  · exact ⟨_, List.mem_cons_of_mem _ (List.mem_singleton.2 rfl), h1⟩
theorem own_mrg {S : Sm} (h : okS S) {a b : Int} (hab : 0 ≤ a ∧ 0 ≤ b) : own (mrg (own S) a b) = own (mrg S a b) := by
  have e : mrg (own S) a b = (ownZ S.1 S.2.1 S.1.length, (mrg S a b).2.1.map (List.map (ren S.2.1)), S.2.2.map (ren S.2.1)) := by
    have hl := lf_own h a b
    rw [own_eq h] at hl ⊢
    show (_, oth (S.2.1.map _) a b ++ [lfL _ _ _ a b], _) = _
    refine Prod.ext rfl (Prod.ext ?_ rfl)
    show oth (S.2.1.map _) a b ++ [_] = (oth S.2.1 a b ++ [_]).map _
    rw [List.map_append]
    unfold oth
    rw [List.length_map, oth_map rfl]
    congr 1
    show [lfL _ _ _ a b] = [_]
    rw [show lfL (ownZ S.1 S.2.1 S.1.length) (S.2.1.map (List.map (ren S.2.1))) (S.2.2.map (ren S.2.1)) a b = _ from hl]
    rfl
  rw [e]
  exact own_comp (zs := S.1) (o := S.2.2) (mrg_in h a b) (self_in (mrg_in h a b)) (mrg_outL h hab)
theorem own_pr {S : Sm} (h : okS S) (a b : Int) : own (pr (own S) a b) = own (pr S a b) := by
  have e : pr (own S) a b = (ownZ S.1 S.2.1 S.1.length, (pr S a b).2.1.map (List.map (ren S.2.1)), (lfS S a b).map (ren S.2.1)) := by
    have hl := lf_own h a b
    rw [own_eq h] at hl ⊢
    refine Prod.ext rfl (Prod.ext ?_ hl)
    show [(S.2.1.map _).getD _ [], (S.2.1.map _).getD _ []] = [_, _].map _
    rw [getD_mapL rfl, getD_mapL rfl]; rfl
  rw [e]
  exact own_comp (zs := S.1) (o := lfS S a b) (pr_in h a b) (self_in (pr_in h a b)) (pr_outL h a b)
theorem letP_at {S : Sm} (h : okS S) (k : Nat) : letP (S.2.1.getD k []) S.1.length := by
  by_cases hk : k < S.2.1.length
  · exact h.fl _ (mem_getD hk)
  · have : S.2.1.getD k [] = [] := by simp [List.getD, List.getElem?_eq_none (Nat.le_of_not_lt hk)]
    rw [this]; exact ⟨Nat.zero_le _, fun i hi => absurd hi (Nat.not_lt_zero _)⟩
theorem mrg_ok {S : Sm} (h : okS S) {a b : Int} (hr : rng S a b) (hn : (lfS S a b).length ≤ 3) : okS (mrg S a b) := by
  have hl := oth_len hr
  have h4 := h.f4
  refine ⟨h.z5, h.zb, ?_, ?_, fun f hf => ?_, h.ol, mrg_out h ⟨hr.1, by have := hr.2.1; have := hr.1; omega⟩⟩
  · show 1 ≤ (oth S.2.1 a b ++ [_]).length
    rw [List.length_append]; exact Nat.le_add_left _ _
  · show (oth S.2.1 a b ++ [_]).length ≤ 4
    rw [List.length_append]; simp only [List.length_cons, List.length_nil]; omega
  · rcases List.mem_append.1 hf with hf | hf
    · obtain ⟨k, -, -, rfl⟩ := (othTo_mem _).1 hf
      exact letP_at h k
    · rw [List.mem_singleton.1 hf]; exact ⟨hn, lfL_dif _ _ _ _ _⟩
theorem mrg_fl {S : Sm} {a b : Int} (hr : rng S a b) : (mrg S a b).2.1.length + 1 = S.2.1.length := by
  have hl := oth_len hr
  show (oth S.2.1 a b ++ [_]).length + 1 = _
  rw [List.length_append]; simp only [List.length_cons, List.length_nil]; omega
theorem pr_ok {S : Sm} (h : okS S) {a b : Int} (hn : (lfS S a b).length ≤ 3) : okS (pr S a b) := by
  refine ⟨h.z5, h.zb, by show 1 ≤ 2; decide, by show 2 ≤ 4; decide, fun f hf => ?_, ⟨hn, lfL_dif _ _ _ _ _⟩, fun l hl => (pr_outL h a b l hl).2⟩
  have hf : f ∈ [S.2.1.getD a.toNat [], S.2.1.getD b.toNat []] := hf
  rcases List.mem_cons.1 hf with rfl | hf
  · exact letP_at h _
  · rw [List.mem_singleton.1 hf]; exact letP_at h _
theorem own_ok {S : Sm} (h : okS S) : okS (own S) := okP_of (own_sumP h)
theorem own_own {S : Sm} (h : okS S) : own (own S) = own S := own_id (own_sumP h)
theorem own_sum {S : Sm} (h : sumP S.1 S.2.1 S.2.2) : own S = S := own_id h

/-! MergeOf. -/
def mgP (S : Sm) (a b : Int) : Prop := sumP S.1 S.2.1 S.2.2 ∧ rng S a b ∧ (lfS S a b).length ≤ 3
instance (S : Sm) (a b : Int) : Decidable (rng S a b) := by unfold rng; infer_instance
instance (S : Sm) (a b : Int) : Decidable (mgP S a b) := by unfold mgP; infer_instance
def noS : Sm := ([], [], [])
def mgW (S : Sm) (a b : Int) : Sm := if mgP S a b then own (mrg S a b) else noS
def mgB (S : Sm) (a b : Int) : Sm := if mgP S a b then own (pr S a b) else noS
theorem mgW_t {S : Sm} {a b : Int} (h : mgP S a b) : mgW S a b = own (mrg S a b) := if_pos h
theorem mgW_f {S : Sm} {a b : Int} (h : ¬ mgP S a b) : mgW S a b = noS := if_neg h
theorem mgB_t {S : Sm} {a b : Int} (h : mgP S a b) : mgB S a b = own (pr S a b) := if_pos h
theorem mgB_f {S : Sm} {a b : Int} (h : ¬ mgP S a b) : mgB S a b = noS := if_neg h
theorem mgP_own {S : Sm} (h : okS S) (a b : Int) : mgP (own S) a b ↔ rng S a b ∧ (lfS S a b).length ≤ 3 := by
  unfold mgP
  rw [lf_own_len h]
  unfold rng
  rw [own_fl]
  exact ⟨fun h' => h'.2, fun h' => ⟨own_sumP h, h'⟩⟩
end Go.Proofs.Ytmgggbgejdkamaa
