import Derived.Test.YtjmdhfjemaoebaaGreatM1x1
import Derived.Test.YtjmdhfjemaoebaaGreatM01x31
import Derived.Test.YtjmdhfjemaoebaaGreatM01x32
import Derived.Test.YtjmdhfjemaoebaaGreatM01x25
namespace Go.Proofs.YtjmdhfjemaoebaaGreat
set_option maxRecDepth 20000
open Go.RowKit Go.Am
set_option linter.unusedSimpArgs false
theorem SlP.shape {x : Nd} {sh : List Int} {us vs ls : List T2} (h : SlP x sh us vs ls) : sh = kL x (ls.map Prod.fst) (us.map Prod.fst) := h.l.2.2
theorem shA_of {x : Nd} {ls : List T2} : shA x (ls.map Prod.fst) = (ls.getD x.a.toNat ([], [])).1 := getD_fst _ _
theorem shB_of {x : Nd} {ls : List T2} : shB x (ls.map Prod.fst) = (ls.getD x.b.toNat ([], [])).1 := getD_fst _ _
structure SlF (x : Nd) (sh : List Int) (us vs ls : List T2) : Prop where
  ia : 0 ≤ x.a ∧ x.a < ls.length
  ib : 0 ≤ x.b ∧ x.b < ls.length
  va : x.a < vs.length
  vb : x.b < vs.length
  s3 : sh.length ≤ 3
  p1 : tmP x.op sh (ls.getD x.a.toNat ([], [])).1 (ls.getD x.a.toNat ([], [])).2 (vs.getD x.b.toNat ([], [])).1 (vs.getD x.b.toNat ([], [])).2
  p2 : tmP x.op sh (vs.getD x.a.toNat ([], [])).1 (vs.getD x.a.toNat ([], [])).2 (ls.getD x.b.toNat ([], [])).1 (ls.getD x.b.toNat ([], [])).2
  n1 : (tmL x.op sh (vs.getD x.a.toNat ([], [])).1 (vs.getD x.a.toNat ([], [])).2 (ls.getD x.b.toNat ([], [])).1 (ls.getD x.b.toNat ([], [])).2).length = (tmL x.op sh (ls.getD x.a.toNat ([], [])).1 (ls.getD x.a.toNat ([], [])).2 (vs.getD x.b.toNat ([], [])).1 (vs.getD x.b.toNat ([], [])).2).length
  n2 : (tmL x.op sh (ls.getD x.a.toNat ([], [])).1 (ls.getD x.a.toNat ([], [])).2 (vs.getD x.b.toNat ([], [])).1 (vs.getD x.b.toNat ([], [])).2).length ≤ 64
  m : slM x sh us vs ls = told sh (twoL 0 (tmL x.op sh (ls.getD x.a.toNat ([], [])).1 (ls.getD x.a.toNat ([], [])).2 (vs.getD x.b.toNat ([], [])).1 (vs.getD x.b.toNat ([], [])).2) (tmL x.op sh (vs.getD x.a.toNat ([], [])).1 (vs.getD x.a.toNat ([], [])).2 (ls.getD x.b.toNat ([], [])).1 (ls.getD x.b.toNat ([], [])).2))
theorem sl_facts {x : Nd} {sh : List Int} {us vs ls : List T2} (h : SlP x sh us vs ls) (o : x.op = 4 ∨ x.op = 12) : SlF x sh us vs ls := by
  have F := l_facts h.l
  obtain ⟨ga, ta⟩ := F.ia (by omega)
  obtain ⟨gb, tb⟩ := F.ib (by omega)
  have hn := h.n
  have ea : (ls.getD x.a.toNat ([], [])).1 = (vs.getD x.a.toNat ([], [])).1 := h.fst (by omega)
  have eb : (ls.getD x.b.toNat ([], [])).1 = (vs.getD x.b.toNat ([], [])).1 := h.fst (by omega)
  have wa := h.v x.a.toNat (by omega)
  have wb := h.v x.b.toNat (by omega)
  have hs := h.shape
  rcases o with o | o
  · have hj := F.two (by omega)
    have hk : sh = jL (ls.getD x.a.toNat ([], [])).1 (ls.getD x.b.toNat ([], [])).1 := by
      rw [hs, ← shA_of, ← shB_of]; simp [kL, o]
    have b1 := jL_ok hj
    have b3 := ((shapeOk_iff _).1 b1).1
    have hc := cnt64 b1 (Nat.le_refl _)
    obtain ⟨r1, r2⟩ := jOk_r hj
    have j1 := jOk_jL hj
    have j2 := jL_jL hj
    rw [← hk] at b1 b3 hc r1 r2 j1 j2
    have o12 : x.op ≠ 12 := by omega
    have E1 : EtP sh (ls.getD x.a.toNat ([], [])).1 (ls.getD x.a.toNat ([], [])).2 (vs.getD x.b.toNat ([], [])).1 (vs.getD x.b.toNat ([], [])).2 := ⟨((tensorOk_iff _ _).1 ta).2.1, ((tensorOk_iff _ _).1 wb).2.1, j1, j2, by rw [← eb]; exact r1, by rw [← eb]; exact r2⟩
    have E2 : EtP sh (vs.getD x.a.toNat ([], [])).1 (vs.getD x.a.toNat ([], [])).2 (ls.getD x.b.toNat ([], [])).1 (ls.getD x.b.toNat ([], [])).2 := ⟨((tensorOk_iff _ _).1 wa).2.1, ((tensorOk_iff _ _).1 tb).2.1, by rw [← ea]; exact j1, by rw [← ea]; exact j2, r1, r2⟩
    have t1 : ∀ {xs zs ps qs : List Int}, tmL x.op sh xs zs ps qs = twoL 2 (sprd xs zs sh) (sprd ps qs sh) := fun {xs zs ps qs} => if_neg o12
    refine ⟨ga, gb, by omega, by omega, b3, ⟨fun h => absurd h o12, fun _ => E1⟩, ⟨fun h => absurd h o12, fun _ => E2⟩, ?_, ?_, ?_⟩
    · rw [t1, t1, twoL_length, twoL_length, rdL_length, rdL_length]
    · rw [t1, twoL_length, rdL_length]; omega
    · rw [t1, t1]
      show told sh (slS x sh us vs ls) = _
      rw [slS_4 o]
  · obtain ⟨p1, p2, p3, p4, p5⟩ := F.prod o
    have P1 : prP (ls.getD x.a.toNat ([], [])).1 (ls.getD x.a.toNat ([], [])).2 (vs.getD x.b.toNat ([], [])).1 (vs.getD x.b.toNat ([], [])).2 := ⟨ta, wb, p3, by rw [← eb]; exact p4, by rw [← eb]; exact p5⟩
    have P2 : prP (vs.getD x.a.toNat ([], [])).1 (vs.getD x.a.toNat ([], [])).2 (ls.getD x.b.toNat ([], [])).1 (ls.getD x.b.toNat ([], [])).2 := ⟨wa, tb, by rw [← ea]; exact p3, p4, by rw [← ea]; exact p5⟩
    have hk : sh = [(ls.getD x.a.toNat ([], [])).1.getD (Int.toNat 0) 0, (ls.getD x.b.toNat ([], [])).1.getD (Int.toNat 1) 0] := by
      rw [hs, ← shA_of, ← shB_of]; simp [kL, o]
    have t1 : ∀ {xs zs ps qs : List Int}, tmL x.op sh xs zs ps qs = prL zs qs (xs.getD 0 0).toNat (xs.getD 1 0).toNat (ps.getD 1 0).toNat := fun {xs zs ps qs} => if_pos o
    refine ⟨ga, gb, by omega, by omega, by rw [hk]; simp, ⟨fun _ => psP_of P1, fun h => absurd o h⟩, ⟨fun _ => psP_of P2, fun h => absurd o h⟩, ?_, ?_, ?_⟩
    · rw [t1, t1, prL_length, prL_length, ea, eb]
    · rw [t1]; have := prL_len16 (psP_of P1) (ls.getD x.a.toNat ([], [])).2 (vs.getD x.b.toNat ([], [])).2; omega
    · rw [t1, t1, ea, eb]
      show told sh (slS x sh us vs ls) = _
      rw [slS_12 o]
attribute [local irreducible] aPlan aGet aIf aLoop aCall RetB NextB CallB CallG aCut aSet aAppend
set_option maxHeartbeats 8000000 in
theorem nodeSlope_sound : Sound Tryz.prog 59 (fnTB (ι := Nat × Nd × Nat × List Int × Nat × List T2 × Nat × List T2 × Nat × List T2) 3 (fun | (b, x, s, sh, d, us, e, vs, f, ls) => [.agg [.int .i64 x.op, .int .i64 x.a, .int .i64 x.b, .sl b x.l.length (x.l.map (.int .i64))], .sl s sh.length (sh.map (.int .i64)), .sl d us.length (us.flatMap (tnC d)), .sl e vs.length (vs.flatMap (tnC e)), .sl f ls.length (ls.flatMap (tnC f))]) (fun | (_, x, _, sh, _, us, _, vs, _, ls) => SlP x sh us vs ls) (fun | (_, x, _, sh, _, us, _, vs, _, ls) => slM x sh us vs ls)) := by
  refine sound_of Tryz.func59 rfl (enters_of Tryz.func59 (by kernel_rfl) (by kernel_rfl)) ?_
  rintro ⟨b, x, s, sh, d, us, e, vs, f, ls⟩ hpre
  have hp : SlP x sh us vs ls := hpre
  have hmax : maxLen = 9223372036854775807 := rfl
  have F := l_facts hp.l
  by_cases o1 : x.op = 1
  · have hsh := (F.i1 o1).2
    have hs : shapeOk sh = true := by rw [hsh]; rfl
    have hM : slM x sh us vs ls = (sh, zsOf sh, true) := by
      unfold slM; rw [slS_1 o1, hsh]; rfl
    have h3 := ((shapeOk_iff _).1 hs).1
    conv => whnf
    repeat' (first
      | ((first | refine plan_in (id := 6) [0, 1, 2, 3, 4, 5, 6, 7, 8, 9, 10, 11, 12, 13, 14] (by kernel_rfl) (by kernel_rfl) ?_ | refine plan_in (id := 7) [0, 1, 2, 3, 4, 5, 6, 7, 8, 9, 10, 11, 12, 13, 14] (by kernel_rfl) (by kernel_rfl) ?_ | refine aGet_in rfl ?_ | refine And.intro (by omega) ?_ | refine load_same ?_ | refine And.intro rfl (And.intro (List.cons_ne_nil _ _) ?_) | refine And.intro (Nat.le_of_ble_eq_true rfl) ?_ | refine callG_t ?_ | refine append_same ?_ | refine part_tn_n (by omega) ?_ | refine noughtsOf_call (by assumption) ?_ | refine takeN_in ?_ | refine And.intro (pureL_ints _ _) ?_ | refine set_force ?_ | refine And.intro (by kernel_rfl) ?_); conv => whnf) | (refine aIf_dec (fun _ => ?_) (fun _ => ?_) <;> conv => whnf))
    all_goals (first | (exfalso; omega) | skip)
    all_goals (refine retTB (hM := hM) ?_ ?_ ?_ ?_ ?_ <;> first | exact rfl | decide | (simp; done))
  · by_cases o : x.op = 4 ∨ x.op = 12
    · obtain ⟨ga, gb, va, vb, s3, p1, p2, n1, n2, hM⟩ := sl_facts hp o
      have n3 := twoL_length 0 (tmL x.op sh (ls.getD x.a.toNat ([], [])).1 (ls.getD x.a.toNat ([], [])).2 (vs.getD x.b.toNat ([], [])).1 (vs.getD x.b.toNat ([], [])).2) (tmL x.op sh (vs.getD x.a.toNat ([], [])).1 (vs.getD x.a.toNat ([], [])).2 (ls.getD x.b.toNat ([], [])).1 (ls.getD x.b.toNat ([], [])).2)
      conv => whnf
      repeat' (first
        | ((first | refine plan_in (id := 6) [0, 1, 2, 3, 4, 5, 6, 7, 8, 9, 10, 11, 12, 13, 14] (by kernel_rfl) (by kernel_rfl) ?_ | refine plan_in (id := 7) [0, 1, 2, 3, 4, 5, 6, 7, 8, 9, 10, 11, 12, 13, 14] (by kernel_rfl) (by kernel_rfl) ?_ | refine aGet_in rfl ?_ | refine And.intro (by omega) ?_ | refine load_same ?_ | refine And.intro rfl (And.intro (List.cons_ne_nil _ _) ?_) | refine And.intro (Nat.le_of_ble_eq_true rfl) ?_); conv => whnf) | (refine orNone_call _ _ rfl rfl (by decide) (by first | rfl | omega) (by first | rfl | omega) (fun _ => ?_) (fun _ => ?_) <;> conv => whnf) | ((first | refine callG_t ?_ | refine copyNums_call (by omega) ?_ | refine append_same ?_ | refine part_tn (by omega) ?_ | refine plusNums_call (And.intro (by omega) (by omega)) ?_ | refine timesNums_call (by assumption) ?_ | refine takeN_in ?_ | refine And.intro (pureL_ints _ _) ?_ | refine cut_ints ?_ | refine set_force ?_ | refine And.intro (by kernel_rfl) ?_); conv => whnf) | (refine aIf_dec (fun _ => ?_) (fun _ => ?_) <;> conv => whnf))
      all_goals (first | (exfalso; omega) | skip)
      all_goals (first | (refine retTB (hM := hM.trans (told_t (by assumption))) ?_ ?_ ?_ ?_ ?_ <;> first | exact rfl | decide | (simp; done)) | (refine retTB (hM := hM.trans (told_f (by assumption))) ?_ ?_ ?_ ?_ ?_ <;> first | exact rfl | decide | (simp; done)))
    · have hv := hp.l.1
      have hM : slM x sh us vs ls = ((vlM x us ls).1, (vlM x us ls).2.1, (vlM x us ls).2.2) := slM_o hp.l o1 (by omega) (by omega)
      conv => whnf
      repeat' (first
        | ((first | refine plan_in (id := 6) [0, 1, 2, 3, 4, 5, 6, 7, 8, 9, 10, 11, 12, 13, 14] (by kernel_rfl) (by kernel_rfl) ?_ | refine plan_in (id := 7) [0, 1, 2, 3, 4, 5, 6, 7, 8, 9, 10, 11, 12, 13, 14] (by kernel_rfl) (by kernel_rfl) ?_ | refine aGet_in rfl ?_ | refine And.intro (by omega) ?_ | refine load_same ?_ | refine And.intro rfl (And.intro (List.cons_ne_nil _ _) ?_) | refine And.intro (Nat.le_of_ble_eq_true rfl) ?_ | refine callG_t ?_ | refine append_same ?_ | refine part_tn_n (by omega) ?_ | refine And.intro (pureL_tn _ _) ?_ | refine nodeValue_call (by assumption) ?_ | refine takeN_in ?_ | refine And.intro (pureL_ints _ _) ?_ | refine set_force ?_ | refine And.intro (by kernel_rfl) ?_); conv => whnf) | (refine aIf_dec (fun _ => ?_) (fun _ => ?_) <;> conv => whnf))
      all_goals (first | (exfalso; omega) | skip)
      all_goals (refine retTB (hM := hM) ?_ ?_ ?_ ?_ ?_ <;> first | exact rfl | decide | (simp; done))
end Go.Proofs.YtjmdhfjemaoebaaGreat
namespace Go.Proofs.YtjmdhfjemaoebaaGreat
set_option maxRecDepth 20000
open Go.RowKit Go.Am
set_option linter.unusedSimpArgs false
theorem mapM_set7 {g : AV → Option AV} {u d : AV} (hu : g u = some d) : ∀ {cs ds : List AV} {i : Nat}, cs.mapM g = some ds → (cs.set i u).mapM g = some (ds.set i d)
  | [], ds, i, h => by
    have : ds = [] := by simpa using h.symm
    subst this; rfl
  | c :: cs, ds, i, h => by
    simp only [List.mapM_cons, Option.pure_def, Option.bind_eq_bind, Option.bind_eq_some_iff, Option.some.injEq] at h
    obtain ⟨v, h1, ws, h2, rfl⟩ := h
    cases i with
    | zero => simp [List.mapM_cons, hu, h2]
    | succ i => simp [List.mapM_cons, h1, mapM_set7 hu h2]
theorem set_same7 {l : List AV} {i : Nat} {x : AV} (h : l[i]? = some x) : l.set i x = l := by
  refine List.ext_getElem? fun j => ?_
  rw [List.getElem?_set]
  split
  · rename_i e; subst e
    split
    · exact h.symm
    · rename_i hl; rw [List.getElem?_eq_none (by omega)] at h; cases h
  · rfl
theorem tn_at {c k : Nat} {vs : List T2} (h : k < vs.length) : (vs.flatMap (tnC c))[k * 2 + 0]? = some (slI c (vs.getD k ([], [])).1) := flatM_get (tnC_length c) ([], []) rfl h rfl
theorem tnO_at {t : TypeId} {k : Nat} {vs : List T2} (h : k < vs.length) : (vs.flatMap (tnO t))[k * 2 + 0]? = some (ownI t (vs.getD k ([], [])).1) := flatM_get (tnO_length t) ([], []) rfl h rfl
theorem tree_row7 {s : St} {t : TypeId} {zs : List Int} {τ v f n : Nat} (hr : s.rows[τ]? = some ⟨v, t, 1, zs.map (.int .i64)⟩) (hn : n = zs.length) : s.tree [] (f + 2) (.ref τ v 0 n) = some (slI 0 zs) := by
  subst hn
  refine tree_ref hr ⟨rfl, by simp, by simp⟩ ?_
  rw [List.drop_zero, Nat.mul_one, List.take_of_length_le (by simp)]
  exact scalL_tree (scalL_ints _ _)
theorem tree_open {s : St} {t tt : TypeId} {vs : List T2} {k q τ v R vR n m : Nat} {cells : List AV} (hk : k < vs.length) (hq : q = k * 2 + 0) (hτ : s.rows[τ]? = some ⟨v, t, 1, (vs.getD k ([], [])).1.map (.int .i64)⟩) (hn : n = (vs.getD k ([], [])).1.length) (hR : s.rows[R]? = some ⟨vR, tt, 2, cells⟩) (hc : cells = (vs.flatMap (tnO t)).set q (.ref τ v 0 n)) (hm : m = vs.length) :
    s.tree [] 4 (.ref R vR 0 m) = some (.sl 0 vs.length (vs.flatMap (tnC 0))) := by
  subst hq; subst hm; subst hc
  have e : (vs.flatMap (tnO t)).length = vs.length * 2 := flat_len (tnO_length _) vs
  refine tree_ref hR ⟨rfl, by simp [e], by simp⟩ ?_
  show ((((vs.flatMap (tnO t)).set (k * 2 + 0) (.ref τ v 0 n)).drop 0).take (vs.length * 2)).mapM _ = _
  rw [List.drop_zero, List.take_of_length_le (by rw [List.length_set, e]; exact Nat.le_refl _)]
  have h := mapM_set7 (g := s.tree [] 3) (tree_row7 (f := 1) hτ hn) (mapM_imp (fun a b e => tr_tree 3 a b e) (trL_flat (trL_tnO 1 t) vs)) (i := k * 2 + 0)
  rw [h, set_same7 (tn_at hk)]
theorem tree_room {s : St} {t tt : TypeId} {ls : List T2} {R vR m : Nat} {B : List AV} (hR : s.rows[R]? = some ⟨vR, tt, 2, ls.flatMap (tnO t) ++ B⟩) (hm : m = ls.length) : s.tree [] 4 (.ref R vR 0 m) = some (.sl 0 ls.length (ls.flatMap (tnC 0))) := by
  subst hm
  have e : (ls.flatMap (tnO t)).length = ls.length * 2 := flat_len (tnO_length _) ls
  refine tree_ref hR ⟨rfl, by simp [e], by simp⟩ ?_
  show ((((ls.flatMap (tnO t)) ++ B).drop 0).take (ls.length * 2)).mapM _ = _
  rw [List.drop_zero, List.take_left' (by rw [e])]
  exact mapM_imp (fun a b e => tr_tree 3 a b e) (trL_flat (trL_tnO 1 t) ls)
theorem tree_nd7 {s : St} {c f : Nat} {x : Nd} : s.tree [] (f + 2) (.agg (ndC c x)) = some (.agg (ndC c x)) := by
  refine tree_agg ?_
  exact mapM_next rfl (mapM_next rfl (mapM_next rfl (mapM_next (tree_sl (pureL_ints _ _)) rfl)))
theorem drop_ab7 {A B : List AV} {n : Nat} {u v x y : AV} (h : A.length = n * 2) : (((A ++ ([u, v] ++ B)).set (n * 2 + 0) x).set (n * 2 + 1) y).drop (n * 2) = x :: y :: B := by
  rw [set_mid (i := 0) (by rw [h]) (by simp), set_mid (i := 1) (by rw [h]) (by simp), ← h, List.drop_left]; rfl
theorem load_in7 {P : Program} {s : St} {t : TypeId} {τ ver off : Nat} {r : Row} {ys : List AV} {k : AV → Prop} (hr : s.rows[τ]? = some r) (hv : r.ver = ver) (h : r.cells.drop off = ys) (hk : aPart P t ys k) : aLoad P s t (.ptr τ ver off) k := by
  show aRow s τ ver fun r => aPart P t (r.cells.drop off) k
  unfold aRow; rw [hr]; show (if r.ver = ver then aPart P t (r.cells.drop off) k else False); rw [if_pos hv, h]; exact hk
theorem get_set7 {t : TypeId} {vs : List T2} {q k : Nat} {u : AV} (hk : k < vs.length) (hq : q = k * 2 + 0) : ((vs.flatMap (tnO t)).set q u)[q]? = some u := by
  have e : (vs.flatMap (tnO t)).length = vs.length * 2 := flat_len (tnO_length _) vs
  rw [List.getElem?_set_self (by omega)]
theorem le_back {t : TypeId} {vs : List T2} {q k : Nat} {u : AV} {p : Prop} (hk : k < vs.length) (hq : q = k * 2 + 0) : (pureL (((vs.flatMap (tnO t)).set q u).set q (ownI t (vs.getD k ([], [])).1)) = true ∧ vs.flatMap (tnO t) = ((vs.flatMap (tnO t)).set q u).set q (ownI t (vs.getD k ([], [])).1)) ∨ p := by
  refine le_cells ?_ (pureL_otn _ _)
  subst hq
  rw [List.set_set, set_same7 (tnO_at hk)]
attribute [local irreducible] aPlan aGet aIf aLoop aCall RetB NextB CallB CallG aCut aSet aAppend Held
theorem nodeSlope_call {b s d e f : Nat} {x : Nd} {sh : List Int} {us vs ls : List T2} {env : List AV} {rows : List Row} {ctr low : Nat} {k : AV → St → Prop} (hpre : SlP x sh us vs ls)
    (hk : k (.tup [.agg [.ref rows.length ctr 0 (slM x sh us vs ls).1.length, .ref (rows.length + 1) ctr 0 (slM x sh us vs ls).2.1.length], .bool (slM x sh us vs ls).2.2]) ⟨env, rows ++ [⟨ctr, 3, 1, (slM x sh us vs ls).1.map (.int .i64)⟩, ⟨ctr, 3, 1, (slM x sh us vs ls).2.1.map (.int .i64)⟩], ctr + 1, low⟩) :
    CallB Tryz.prog 59 ⟨env, rows, ctr, low⟩ [.agg [.int .i64 x.op, .int .i64 x.a, .int .i64 x.b, .sl b x.l.length (x.l.map (.int .i64))], .sl s sh.length (sh.map (.int .i64)), .sl d us.length (us.flatMap (tnC d)), .sl e vs.length (vs.flatMap (tnC e)), .sl f ls.length (ls.flatMap (tnC f))] k := callTB_in nodeSlope_sound (b, x, s, sh, d, us, e, vs, f, ls) hpre hk
theorem nodeSlope_callG {b d k q τ v n n' R vR m S vS l : Nat} {x : Nd} {us vs ls : List T2} {env : List AV} {rows : List Row} {ctr low : Nat} {cells B : List AV} {K : AV → St → Prop} (hp : SlP x (vs.getD k ([], [])).1 us vs ls) (hk : k < vs.length) (hq : q = k * 2 + 0)
    (hτ : rows[τ]? = some ⟨v, 3, 1, (vs.getD k ([], [])).1.map (.int .i64)⟩) (hn : n = (vs.getD k ([], [])).1.length) (hn' : n' = (vs.getD k ([], [])).1.length) (hR : rows[R]? = some ⟨vR, 40, 2, cells⟩) (hc : cells = (vs.flatMap (tnO 3)).set q (.ref τ v 0 n)) (hm : m = vs.length)
    (hS : rows[S]? = some ⟨vS, 40, 2, ls.flatMap (tnO 3) ++ B⟩) (hl : l = ls.length)
    (hK : K (.tup [.agg [.ref rows.length ctr 0 (slM x (vs.getD k ([], [])).1 us vs ls).1.length, .ref (rows.length + 1) ctr 0 (slM x (vs.getD k ([], [])).1 us vs ls).2.1.length], .bool (slM x (vs.getD k ([], [])).1 us vs ls).2.2]) ⟨env, rows ++ [⟨ctr, 3, 1, (slM x (vs.getD k ([], [])).1 us vs ls).1.map (.int .i64)⟩, ⟨ctr, 3, 1, (slM x (vs.getD k ([], [])).1 us vs ls).2.1.map (.int .i64)⟩], ctr + 1, low⟩) :
    CallG Tryz.prog 59 ⟨env, rows, ctr, low⟩ [.agg [.int .i64 x.op, .int .i64 x.a, .int .i64 x.b, .sl b x.l.length (x.l.map (.int .i64))], .ref τ v 0 n', .sl d us.length (us.flatMap (tnC d)), .ref R vR 0 m, .ref S vS 0 l] K := by
  have e1 : callArg ⟨env, rows, ctr, low⟩ [] false (.agg [.int .i64 x.op, .int .i64 x.a, .int .i64 x.b, .sl b x.l.length (x.l.map (.int .i64))]) = some (.agg [.int .i64 x.op, .int .i64 x.a, .int .i64 x.b, .sl b x.l.length (x.l.map (.int .i64))]) := tree_nd7
  have e2 : callArg ⟨env, rows, ctr, low⟩ [] false (.ref τ v 0 n') = some (slI 0 (vs.getD k ([], [])).1) := tree_row7 hτ hn'
  have e3 : callArg ⟨env, rows, ctr, low⟩ [] false (.sl d us.length (us.flatMap (tnC d))) = some (.sl d us.length (us.flatMap (tnC d))) := tree_sl (s := ⟨env, rows, ctr, low⟩) (T := []) (f := 3) (pureL_tn _ _)
  have e4 : callArg ⟨env, rows, ctr, low⟩ [] false (.ref R vR 0 m) = some (.sl 0 vs.length (vs.flatMap (tnC 0))) := tree_open hk hq hτ hn hR hc hm
  have e5 : callArg ⟨env, rows, ctr, low⟩ [] false (.ref S vS 0 l) = some (.sl 0 ls.length (ls.flatMap (tnC 0))) := tree_room hS hl
  exact callG_tree (callArgs_next e1 (callArgs_next e2 (callArgs_next e3 (callArgs_next e4 (callArgs_next e5 rfl))))) (nodeSlope_call hp hK)
end Go.Proofs.YtjmdhfjemaoebaaGreat
namespace Go.Proofs.YtjmdhfjemaoebaaGreat
set_option maxRecDepth 20000
open Go.RowKit Go.Am
set_option linter.unusedSimpArgs false
abbrev M7 := List (Nat × T2)
def m7C (x : Nat × T2) : List AV := tnC x.1 x.2
def m7O (t : TypeId) (x : Nat × T2) : List AV := if x.1 = 0 then tnO t x.2 else tnC x.1 x.2
theorem m7C_length (x : Nat × T2) : (m7C x).length = 2 := rfl
theorem m7O_length (t : TypeId) (x : Nat × T2) : (m7O t x).length = 2 := by unfold m7O; split <;> rfl
theorem m7C_pure (x : Nat × T2) : pureL (m7C x) = true := tnC_pure _ _
theorem m7O_pure (t : TypeId) (x : Nat × T2) : pureL (m7O t x) = true := by
  unfold m7O; split
  · exact tnO_pure _ _
  · exact tnC_pure _ _
theorem m7_getD (M : M7) (k : Nat) : (M.map Prod.snd).getD k ([], []) = (M.getD k (0, [], [])).2 := by
  simp only [List.getD, List.getElem?_map]
  cases M[k]? <;> rfl
theorem pureL_m7 (M : M7) : pureL (M.flatMap m7C) = true := pureL_flat m7C_pure _
theorem pureL_m7O (t : TypeId) (M : M7) : pureL (M.flatMap (m7O t)) = true := pureL_flat (m7O_pure t) _
theorem get_m7 {j : Nat} {i : Int} {M : M7} {u : AV} {K : AV → Prop} (h : 0 ≤ i ∧ i < M.length) (hj : (m7C (M.getD i.toNat (0, [], [])))[j]? = some u) (hK : K u) : aGet (((M.flatMap m7C).drop (i.toNat * 2)).drop j) 0 K := get_flat m7C_length _ rfl (by omega) hj hK
theorem part_m7 {i : Int} {M : M7} {K : AV → Prop} (h : 0 ≤ i ∧ i < M.length) (hk : K (.agg (m7C (M.getD i.toNat (0, [], []))))) :
    aTakeN 2 ((M.flatMap m7C).drop (i.toNat * 2)) K := part_flat m7C_length (fun _ => rfl) _ rfl (by omega) hk
def sL3M : CSpec :=
  { ι := Nat × Nd × List Int × Nat × M7 × Nat × List T2, inout := [false, true, false, false],
    args := fun | (b, x, sh, g, M, e, ts) => [.agg [.int .i64 x.op, .int .i64 x.a, .int .i64 x.b, .sl b x.l.length (x.l.map (.int .i64))], .ref 0 0 0 sh.length, .sl g M.length (M.flatMap m7C), .sl e ts.length (ts.flatMap (tnC e))],
    ins := fun | (_, _, sh, _, _, _, _) => [⟨0, 3, 1, sh.map (.int .i64)⟩],
    pre := fun | (_, x, sh, _, M, _, ts) => lPre x sh ts (M.map Prod.snd) ∧ (0 ≤ x.op ∧ x.op ≤ 12),
    post := fun | (_, x, sh, _, M, _, ts), r, ic, news => postV 3 sh (hbK x) (vS x sh ts (M.map Prod.snd)) r ic news }
theorem oneL_tn7 (c : Nat) (ts : List T2) : oneL (ts.flatMap (tnC c)) = ts.flatMap (tnC 1) := oneL_flat (fun n => by
  show [(slI c n.1).one, (slI c n.2).one] = _
  rw [slI_one, slI_one]; rfl) _
theorem oneL_m7 (M : M7) : oneL (M.flatMap m7C) = (M.map Prod.snd).flatMap (tnC 1) := by
  rw [List.flatMap_map]
  exact oneL_flat (f := m7C) (g := fun x : Nat × T2 => tnC 1 x.2) (fun n => by
    show [(slI n.1 n.2.1).one, (slI n.1 n.2.2).one] = _
    rw [slI_one, slI_one]; rfl) _
theorem l3Value_m : Sound Tryz.prog 75 sL3M := by
  have h1 : Sound Tryz.prog 75 { sL3M with args := fun | (_, x, sh, _, M, _, ts) => [.agg [.int .i64 x.op, .int .i64 x.a, .int .i64 x.b, .sl 1 x.l.length (x.l.map (.int .i64))], .ref 0 0 0 sh.length, .sl 1 (M.map Prod.snd).length ((M.map Prod.snd).flatMap (tnC 1)), .sl 1 ts.length (ts.flatMap (tnC 1))] } := by
    refine ⟨l3Value_sound.1, ?_⟩
    rintro ⟨b, x, sh, g, M, e, ts⟩ hpre
    exact l3Value_sound.2 (1, x, sh, 1, M.map Prod.snd, 1, ts) hpre
  refine sound_oneI (sp := { sL3M with args := fun | (_, x, sh, _, M, _, ts) => [.agg [.int .i64 x.op, .int .i64 x.a, .int .i64 x.b, .sl 1 x.l.length (x.l.map (.int .i64))], .ref 0 0 0 sh.length, .sl 1 (M.map Prod.snd).length ((M.map Prod.snd).flatMap (tnC 1)), .sl 1 ts.length (ts.flatMap (tnC 1))] }) sL3M.args h1 ?_ ?_ ?_
  · rintro ⟨b, x, sh, g, M, e, ts⟩ r hr
    have hr : r ∈ [(⟨0, 3, 1, sh.map (.int .i64)⟩ : Row)] := hr
    rw [List.mem_singleton] at hr
    subst hr; exact bareL_ints _ _
  · rintro ⟨b, x, sh, g, M, e, ts⟩
    show [.agg [.int .i64 x.op, .int .i64 x.a, .int .i64 x.b, .sl 1 x.l.length (x.l.map (.int .i64))], .ref 0 0 0 sh.length, .sl 1 (M.map Prod.snd).length ((M.map Prod.snd).flatMap (tnC 1)), .sl 1 ts.length (ts.flatMap (tnC 1))] = oneL [.agg [.int .i64 x.op, .int .i64 x.a, .int .i64 x.b, .sl b x.l.length (x.l.map (.int .i64))], .ref 0 0 0 sh.length, .sl g M.length (M.flatMap m7C), .sl e ts.length (ts.flatMap (tnC e))]
    simp only [oneL, AV.one, oneL_m7, oneL_tn7, oneL_ints, List.length_map]
  · rintro ⟨b, x, sh, g, M, e, ts⟩ r ic news ⟨rfl, hpost⟩
    refine ⟨?_, fun c hc => by rw [List.mem_singleton] at hc; subst hc; exact bareL_ints _ _, fun n hn => ?_⟩
    · rcases hpost with ⟨-, rfl, -⟩ | ⟨-, rfl, -⟩ <;> rfl
    · rcases hpost with ⟨-, -, rfl⟩ | ⟨-, -, rfl⟩
      · rw [List.mem_singleton] at hn; subst hn; exact bareL_ints _ _
      · rcases List.mem_cons.1 hn with rfl | hn
        · exact bareL_ints _ _
        · rw [List.mem_singleton] at hn; subst hn; exact bareL_ints _ _
theorem l3Value_callM {b g e m : Nat} {x : Nd} {sh : List Int} {ts : List T2} {M : M7} {env : List AV} {rows : List Row} {ctr low τ ver n : Nat} {k : AV → St → Prop} (hp : lPre x sh ts (M.map Prod.snd)) (hr : rows[τ]? = some ⟨ver, 3, 1, sh.map (.int .i64)⟩) (hn : n = sh.length) (hm : m = M.length)
    (hk1 : hbK x → k (.agg [.ref τ ver 0 n, .ref rows.length ctr 0 (vS x sh ts (M.map Prod.snd)).2.length]) ⟨env, setRows rows [τ] [sh.map (.int .i64)] ++ [⟨ctr, 3, 1, (vS x sh ts (M.map Prod.snd)).2.map (.int .i64)⟩], ctr + 1, low⟩)
    (hk2 : ¬ hbK x → k (.agg [.ref rows.length ctr 0 (vS x sh ts (M.map Prod.snd)).1.length, .ref (rows.length + 1) ctr 0 (vS x sh ts (M.map Prod.snd)).2.length]) ⟨env, setRows rows [τ] [sh.map (.int .i64)] ++ [⟨ctr, 3, 1, (vS x sh ts (M.map Prod.snd)).1.map (.int .i64)⟩, ⟨ctr, 3, 1, (vS x sh ts (M.map Prod.snd)).2.map (.int .i64)⟩], ctr + 1, low⟩) :
    CallG Tryz.prog 75 ⟨env, rows, ctr, low⟩ [.agg [.int .i64 x.op, .int .i64 x.a, .int .i64 x.b, .sl b x.l.length (x.l.map (.int .i64))], .ref τ ver 0 n, .sl g m (M.flatMap m7C), .sl e ts.length (ts.flatMap (tnC e))] k := by
  subst hn; subst hm
  refine .inr ⟨[τ], _, l3Value_m, [.agg [.int .i64 x.op, .int .i64 x.a, .int .i64 x.b, .sl b x.l.length (x.l.map (.int .i64))], .ref 0 0 0 sh.length, .sl g M.length (M.flatMap m7C), .sl e ts.length (ts.flatMap (tnC e))], [⟨0, 3, 1, sh.map (.int .i64)⟩], by simp, ?_, ?_, (b, x, sh, g, M, e, ts), rfl, rfl, ⟨hp, (l_facts hp).op⟩, ?_⟩
  · have e1 : callArg ⟨env, rows, ctr, low⟩ [τ] false (.agg [.int .i64 x.op, .int .i64 x.a, .int .i64 x.b, .sl b x.l.length (x.l.map (.int .i64))]) = some (.agg [.int .i64 x.op, .int .i64 x.a, .int .i64 x.b, .sl b x.l.length (x.l.map (.int .i64))]) := tree_agg (mapM_next rfl (mapM_next rfl (mapM_next rfl (mapM_next (tree_sl (pureL_ints _ _)) rfl))))
    have e2 : callArg ⟨env, rows, ctr, low⟩ [τ] true (.ref τ ver 0 sh.length) = some (.ref 0 0 0 sh.length) := by
      simp [callArg, AV.ren, hr]
    have e3 : callArg ⟨env, rows, ctr, low⟩ [τ] false (.sl g M.length (M.flatMap m7C)) = some (.sl g M.length (M.flatMap m7C)) := tree_sl (s := ⟨env, rows, ctr, low⟩) (T := [τ]) (f := 3) (pureL_m7 _)
    have e4 : callArg ⟨env, rows, ctr, low⟩ [τ] false (.sl e ts.length (ts.flatMap (tnC e))) = some (.sl e ts.length (ts.flatMap (tnC e))) := tree_sl (s := ⟨env, rows, ctr, low⟩) (T := [τ]) (f := 3) (pureL_tn _ _)
    show (callArg _ [τ] false _).bind _ = _
    rw [e1]
    show ((callArg _ [τ] true _).bind _).map _ = _
    rw [e2]
    show (((callArg _ [τ] false _).bind _).map _).map _ = _
    rw [e3]
    show ((((callArg _ [τ] false _).bind _).map _).map _).map _ = _
    rw [e4]
    rfl
  · simp [insOf, hr, protL_ren (protL_ints .i64 sh), -List.getD_eq_getElem?_getD]
  · rintro r ic news ⟨rfl, hpost⟩ _
    have ev : verOf ⟨env, rows, ctr, low⟩ τ = ver := by simp [verOf, hr]
    rcases hpost with ⟨hh, rfl, rfl⟩ | ⟨hh, rfl, rfl⟩
    · have eb : (AV.agg [.ref 0 0 0 sh.length, .ref 1 0 0 (vS x sh ts (M.map Prod.snd)).2.length]).back ⟨env, rows, ctr, low⟩ [τ] = .agg [.ref τ ver 0 sh.length, .ref rows.length ctr 0 (vS x sh ts (M.map Prod.snd)).2.length] := by
        simp [AV.back, Go.Am.backL, backT, backV, -List.getD_eq_getElem?_getD]
        exact ⟨rfl, ev⟩
      rw [eb]
      show k _ ⟨env, setRows rows [τ] [Go.Am.backL _ [τ] (sh.map (.int .i64))] ++ (St.news _ [τ] [⟨0, 3, 1, (vS x sh ts (M.map Prod.snd)).2.map (.int .i64)⟩]), ctr + 1, low⟩
      rw [protL_back (protL_ints _ _), news_prot (protL_ints _ _)]
      exact hk1 hh
    · have eb : (AV.agg [.ref 1 0 0 (vS x sh ts (M.map Prod.snd)).1.length, .ref 2 0 0 (vS x sh ts (M.map Prod.snd)).2.length]).back ⟨env, rows, ctr, low⟩ [τ] = .agg [.ref rows.length ctr 0 (vS x sh ts (M.map Prod.snd)).1.length, .ref (rows.length + 1) ctr 0 (vS x sh ts (M.map Prod.snd)).2.length] := by
        simp [AV.back, Go.Am.backL, backT, backV, Nat.add_comm, -List.getD_eq_getElem?_getD]
      rw [eb]
      show k _ ⟨env, setRows rows [τ] [Go.Am.backL _ [τ] (sh.map (.int .i64))] ++ (St.news _ [τ] [⟨0, 3, 1, (vS x sh ts (M.map Prod.snd)).1.map (.int .i64)⟩, ⟨0, 3, 1, (vS x sh ts (M.map Prod.snd)).2.map (.int .i64)⟩]), ctr + 1, low⟩
      rw [protL_back (protL_ints _ _), news_prot2 (protL_ints _ _) (protL_ints _ _)]
      exact hk2 hh
end Go.Proofs.YtjmdhfjemaoebaaGreat
namespace Go.Proofs.YtjmdhfjemaoebaaGreat
set_option maxRecDepth 20000
open Go.RowKit Go.Am
set_option linter.unusedSimpArgs false
attribute [local irreducible] aPlan aGet aIf aLoop aCall RetB NextB CallB CallG aCut aSet aAppend
structure UsP (zs xs ys : List Int) : Prop where
  l : (zs.length : Int) = cntTo ys ys.length
  j1 : jOk xs ys = true
  j2 : jL xs ys = ys
end Go.Proofs.YtjmdhfjemaoebaaGreat
namespace Go.Proofs.YtjmdhfjemaoebaaGreat
set_option maxRecDepth 20000
open Go.RowKit Go.Am
set_option linter.unusedSimpArgs false
attribute [local irreducible] aPlan aGet aIf aLoop aCall RetB NextB CallB CallG aCut aSet aAppend
set_option maxHeartbeats 4000000 in
theorem l7Zero_sound : Sound Tryz.prog 66 (fnT (ι := Nat × List Int) 3 (fun | (c, xs) => [.sl c xs.length (xs.map (.int .i64))]) (fun | (_, xs) => shapeOk xs = true) (fun | (_, xs) => xs) (fun | (_, xs) => zsOf xs)) := by
  refine sound_of Tryz.func66 rfl (enters_of Tryz.func66 (by kernel_rfl) (by kernel_rfl)) ?_
  rintro ⟨c, xs⟩ hpre
  have hs : shapeOk xs = true := hpre
  have h3 := ((shapeOk_iff _).1 hs).1
  have hc := cnt64 hs (Nat.le_refl _)
  have he : countOf xs = cntTo xs xs.length := if_pos hs
  conv => whnf
  repeat' (first
    | ((first | refine And.intro (And.intro (Int.le_refl _) (And.intro (by kernel_rfl) (And.intro rfl (by kernel_rfl)))) (And.intro (And.intro (by omega) (And.intro (bytes_le (b := 8) rfl (by omega)) (by omega))) ?_) | refine And.intro (Nat.le_of_ble_eq_true rfl) ?_ | refine callG_t ?_ | refine l2Nums_call (by omega) ?_ | refine append_same ?_ | refine takeN_in ?_ | refine And.intro (pureL_ints _ _) ?_ | refine l1Count_call ?_ | refine set_force ?_ | refine And.intro (by kernel_rfl) ?_); conv => whnf))
  all_goals (first | (exfalso; omega) | skip)
  all_goals exact retTc (by decide) rfl rfl (rep_ints _ _) rfl (by simp [zsOf, he]) rfl (by simp [zsOf, he])
theorem l7Zero_call {c : Nat} {xs : List Int} {env : List AV} {rows : List Row} {ctr low : Nat} {k : AV → St → Prop} (hpre : shapeOk xs = true)
    (hk : k (.agg [.ref rows.length ctr 0 xs.length, .ref (rows.length + 1) ctr 0 (zsOf xs).length]) ⟨env, rows ++ [⟨ctr, 3, 1, xs.map (.int .i64)⟩, ⟨ctr, 3, 1, (zsOf xs).map (.int .i64)⟩], ctr + 1, low⟩) :
    CallB Tryz.prog 66 ⟨env, rows, ctr, low⟩ [.sl c xs.length (xs.map (.int .i64))] k := callT_in l7Zero_sound (c, xs) hpre hk
end Go.Proofs.YtjmdhfjemaoebaaGreat
