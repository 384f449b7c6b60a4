import Derived.Test.YtjmdhfjemaoebaaGreatX843
namespace Go.Proofs.YtjmdhfjemaoebaaGreat
set_option maxRecDepth 20000
open Go.RowKit Go.Am
set_option linter.unusedSimpArgs false
theorem mapM_app7 {g : AV → Option AV} : ∀ {us us' vs vs' : List AV}, us.mapM g = some us' → vs.mapM g = some vs' → (us ++ vs).mapM g = some (us' ++ vs')
  | [], us', vs, vs', h, h' => by
    have : us' = [] := by simpa using h.symm
    subst this; exact h'
  | u :: us, us', vs, vs', h, h' => by
    simp only [List.mapM_cons, Option.pure_def, Option.bind_eq_bind, Option.bind_eq_some_iff, Option.some.injEq] at h
    obtain ⟨v, h1, ws, h2, rfl⟩ := h
    have := mapM_app7 h2 h'
    simp [List.mapM_cons, h1, this]
theorem tree_m7 {env : List AV} {rows : List Row} {ctr low R vR n : Nat} {T : List Nat} {M : M7} (hR : rows[R]? = some ⟨vR, 40, 2, M.flatMap (m7O 3)⟩) (hn : n = M.length) (hne : R ∉ T) : (⟨env, rows, ctr, low⟩ : St).tree T 4 (.ref R vR 0 n) = some (.sl 0 M.length (M.flatMap m7C)) := by
  subst hn
  have e : (M.flatMap (m7O 3)).length = M.length * 2 := flat_len (m7O_length _) M
  refine tree_ref hR ⟨rfl, by show 0 + M.length * 2 ≤ (M.flatMap (m7O 3)).length; rw [e]; omega, hne⟩ ?_
  show (((M.flatMap (m7O 3)).drop 0).take (M.length * 2)).mapM _ = _
  rw [List.drop_zero, List.take_of_length_le (by rw [e]; exact Nat.le_refl _)]
  have hx : ∀ x : Nat × T2, (m7O 3 x).mapM ((⟨env, rows, ctr, low⟩ : St).tree T 3) = some (m7C x) := fun x => by
    unfold m7O
    split
    · rename_i h0
      have := mapM_imp (fun a b e => tr_tree (s := ⟨env, rows, ctr, low⟩) (T := T) 3 a b e) (trL_tnO 1 3 x.2)
      rw [this]; unfold m7C; rw [h0]
    · exact mapM_next (tree_sl (pureL_ints _ _)) (mapM_next (tree_sl (pureL_ints _ _)) rfl)
  clear e hR
  induction M with
  | nil => rfl
  | cons x M ih =>
    rw [List.flatMap_cons, List.flatMap_cons]
    exact mapM_app7 (hx x) ih
theorem le_m7a {t : TypeId} {M : M7} {xs ys : List Int} {p : Prop} : (pureL (M.flatMap (m7O t) ++ [slI 1 xs, slI 1 ys]) = true ∧ (M ++ [(1, xs, ys)]).flatMap (m7O t) = M.flatMap (m7O t) ++ [slI 1 xs, slI 1 ys]) ∨ p := by
  have e : (M ++ [(1, xs, ys)]).flatMap (m7O t) = M.flatMap (m7O t) ++ [slI 1 xs, slI 1 ys] := by
    rw [List.flatMap_append]; simp [m7O, tnC]
  exact le_cells e.symm (pureL_m7O _ _)
theorem le_m7b {t : TypeId} {M : M7} {n : Nat} {xs ys : List Int} {u v : AV} {p : Prop} (hn : n = M.length) : (pureL (((M.flatMap (m7O t) ++ [u, v]).set (n * 2 + 0) (ownI t xs)).set (n * 2 + 1) (ownI t ys)) = true ∧ (M ++ [(0, xs, ys)]).flatMap (m7O t) = ((M.flatMap (m7O t) ++ [u, v]).set (n * 2 + 0) (ownI t xs)).set (n * 2 + 1) (ownI t ys)) ∨ p := by
  subst hn
  have e : (M.flatMap (m7O t)).length = M.length * 2 := flat_len (m7O_length t) M
  refine le_cells ?_ (pureL_m7O _ _)
  have e2 : M.flatMap (m7O t) ++ [u, v] = M.flatMap (m7O t) ++ ([u, v] ++ []) := by simp
  rw [e2, set_mid (i := 0) (by rw [e]) (by simp), set_mid (i := 1) (by rw [e]) (by simp)]
  rw [List.flatMap_append]; simp [m7O, tnO]
theorem l7Slope_callA {b e n nV nS τ ver RV vV RS vS : Nat} {x : Nd} {sh : List Int} {vs us : List T2} {M : M7} {env : List AV} {rows : List Row} {ctr low : Nat} {k : AV → St → Prop} (hp : SlP x sh us vs (M.map Prod.snd)) (hr : rows[τ]? = some ⟨ver, 3, 1, sh.map (.int .i64)⟩) (hn : n = sh.length) (hV : rows[RV]? = some ⟨vV, 40, 2, vs.flatMap (tnO 3)⟩) (hnV : nV = vs.length) (hneV : RV ≠ τ) (hS : rows[RS]? = some ⟨vS, 40, 2, M.flatMap (m7O 3)⟩) (hnS : nS = M.length) (hneS : RS ≠ τ) (he : e = 1)
    (hk0 : x.op = 0 → k (.agg [slI 1 sh, slI 1 (slS x sh us vs (M.map Prod.snd))]) ⟨env, setRows rows [τ] [sh.map (.int .i64)], ctr + 1, low⟩)
    (hk9 : (x.op = 9 ∨ x.op = 11) → k (.agg [.ref τ ver 0 n, .ref rows.length ctr 0 (slS x sh us vs (M.map Prod.snd)).length]) ⟨env, setRows rows [τ] [sh.map (.int .i64)] ++ [⟨ctr, 3, 1, (slS x sh us vs (M.map Prod.snd)).map (.int .i64)⟩], ctr + 1, low⟩)
    (hk4 : ¬ (x.op = 0 ∨ x.op = 9 ∨ x.op = 11) → k (.agg [.ref rows.length ctr 0 sh.length, .ref (rows.length + 1) ctr 0 (slS x sh us vs (M.map Prod.snd)).length]) ⟨env, setRows rows [τ] [sh.map (.int .i64)] ++ [⟨ctr, 3, 1, sh.map (.int .i64)⟩, ⟨ctr, 3, 1, (slS x sh us vs (M.map Prod.snd)).map (.int .i64)⟩], ctr + 1, low⟩) :
    CallG Tryz.prog 54 ⟨env, rows, ctr, low⟩ [.agg [.int .i64 x.op, .int .i64 x.a, .int .i64 x.b, .sl b x.l.length (x.l.map (.int .i64))], .ref τ ver 0 n, .ref RV vV 0 nV, .ref RS vS 0 nS, .sl e us.length (us.flatMap (tnC e))] k := by
  subst hn; subst he; subst hnV; subst hnS
  refine .inr ⟨[τ], _, l7Slope_sound, [.agg [.int .i64 x.op, .int .i64 x.a, .int .i64 x.b, .sl b x.l.length (x.l.map (.int .i64))], .ref 0 0 0 sh.length, .sl 0 vs.length (vs.flatMap (tnC 0)), .sl 0 M.length (M.flatMap m7C), .sl 1 us.length (us.flatMap (tnC 1))], [⟨0, 3, 1, sh.map (.int .i64)⟩], by simp, ?_, ?_, (b, x, sh, 0, vs, 0, M, us), rfl, rfl, hp, ?_⟩
  · have e1 : callArg ⟨env, rows, ctr, low⟩ [τ] false (.agg [.int .i64 x.op, .int .i64 x.a, .int .i64 x.b, .sl b x.l.length (x.l.map (.int .i64))]) = some (.agg [.int .i64 x.op, .int .i64 x.a, .int .i64 x.b, .sl b x.l.length (x.l.map (.int .i64))]) := tree_agg (mapM_next rfl (mapM_next rfl (mapM_next rfl (mapM_next (tree_sl (pureL_ints _ _)) rfl))))
    have e2 : callArg ⟨env, rows, ctr, low⟩ [τ] true (.ref τ ver 0 sh.length) = some (.ref 0 0 0 sh.length) := by
      simp [callArg, AV.ren, hr]
    have e3 : callArg ⟨env, rows, ctr, low⟩ [τ] false (.ref RV vV 0 vs.length) = some (.sl 0 vs.length (vs.flatMap (tnC 0))) := tree_ts hV (by simpa using hneV)
    have e4 : callArg ⟨env, rows, ctr, low⟩ [τ] false (.ref RS vS 0 M.length) = some (.sl 0 M.length (M.flatMap m7C)) := tree_m7 hS rfl (by simpa using hneS)
    have e5 : callArg ⟨env, rows, ctr, low⟩ [τ] false (.sl 1 us.length (us.flatMap (tnC 1))) = some (.sl 1 us.length (us.flatMap (tnC 1))) := tree_sl (s := ⟨env, rows, ctr, low⟩) (T := [τ]) (f := 3) (pureL_tn _ _)
    show (callArg _ [τ] false _).bind _ = _
    rw [e1]
    show ((callArg _ [τ] true _).bind _).map _ = _
    rw [e2]
    show (((callArg _ [τ] false _).bind _).map _).map _ = _
    rw [e3]
    show ((((callArg _ [τ] false _).bind _).map _).map _).map _ = _
    rw [e4]
    show (((((callArg _ [τ] false _).bind _).map _).map _).map _).map _ = _
    rw [e5]
    rfl
  · simp [insOf, hr, protL_ren (protL_ints .i64 sh), -List.getD_eq_getElem?_getD]
  · rintro r ic news ⟨rfl, hpost⟩ _
    have ev : verOf ⟨env, rows, ctr, low⟩ τ = ver := by simp [verOf, hr]
    rcases hpost with ⟨hh, rfl, rfl⟩ | ⟨hh, rfl, rfl⟩ | ⟨hh, rfl, rfl⟩
    · have eb : (AV.agg [slI 1 sh, slI 1 (slS x sh us vs (M.map Prod.snd))]).back ⟨env, rows, ctr, low⟩ [τ] = .agg [slI 1 sh, slI 1 (slS x sh us vs (M.map Prod.snd))] := by
        show AV.agg (Go.Am.backL _ [τ] _) = _
        simp [Go.Am.backL, AV.back, slI, protL_back (protL_ints _ _)]
      rw [eb]
      show k _ ⟨env, setRows rows [τ] [Go.Am.backL _ [τ] (sh.map (.int .i64))] ++ (St.news _ [τ] []), ctr + 1, low⟩
      rw [protL_back (protL_ints _ _)]
      show k _ ⟨env, setRows rows [τ] [sh.map (.int .i64)] ++ [], ctr + 1, low⟩
      rw [List.append_nil]
      exact hk0 hh
    · have eb : (AV.agg [.ref 0 0 0 sh.length, .ref 1 0 0 (slS x sh us vs (M.map Prod.snd)).length]).back ⟨env, rows, ctr, low⟩ [τ] = .agg [.ref τ ver 0 sh.length, .ref rows.length ctr 0 (slS x sh us vs (M.map Prod.snd)).length] := by
        simp [AV.back, Go.Am.backL, backT, backV, -List.getD_eq_getElem?_getD]
        exact ⟨rfl, ev⟩
      rw [eb]
      show k _ ⟨env, setRows rows [τ] [Go.Am.backL _ [τ] (sh.map (.int .i64))] ++ (St.news _ [τ] [⟨0, 3, 1, (slS x sh us vs (M.map Prod.snd)).map (.int .i64)⟩]), ctr + 1, low⟩
      rw [protL_back (protL_ints _ _), news_prot (protL_ints _ _)]
      exact hk9 hh
    · have eb : (AV.agg [.ref 1 0 0 sh.length, .ref 2 0 0 (slS x sh us vs (M.map Prod.snd)).length]).back ⟨env, rows, ctr, low⟩ [τ] = .agg [.ref rows.length ctr 0 sh.length, .ref (rows.length + 1) ctr 0 (slS x sh us vs (M.map Prod.snd)).length] := by
        simp [AV.back, Go.Am.backL, backT, backV, Nat.add_comm, -List.getD_eq_getElem?_getD]
      rw [eb]
      show k _ ⟨env, setRows rows [τ] [Go.Am.backL _ [τ] (sh.map (.int .i64))] ++ (St.news _ [τ] [⟨0, 3, 1, sh.map (.int .i64)⟩, ⟨0, 3, 1, (slS x sh us vs (M.map Prod.snd)).map (.int .i64)⟩]), ctr + 1, low⟩
      rw [protL_back (protL_ints _ _), news_prot2 (protL_ints _ _) (protL_ints _ _)]
      exact hk4 hh
attribute [local irreducible] aPlan aGet aIf aLoop aCall RetB NextB CallB CallG aCut aSet aAppend shF Held
set_option maxHeartbeats 16000000 in
theorem sAlongOf_sound1 : Sound Tryz.prog 16 { sAlongOf with args := fun | (c, xss, ns, d, ts, _, us) => [.agg [.sl c xss.length (xss.map (slI c)), .sl c ns.length (ns.flatMap (ndC c))], .sl d ts.length (ts.flatMap (tnC d)), .sl 1 us.length (us.flatMap (tnC 1))] } := by
  refine sound_of Tryz.func16 rfl (enters_of Tryz.func16 (by kernel_rfl) (by kernel_rfl)) ?_
  rintro ⟨c, xss, ns, d, ts, e, us⟩ hpre
  have hE : eP ns := hpre
  have hmax : maxLen = 9223372036854775807 := rfl
  by_cases hC : AlC xss ns ts us
  · obtain ⟨hv, hS, hu⟩ := hC
    have hC : AlC xss ns ts us := ⟨hv, hS, hu⟩
    obtain ⟨hP, hva⟩ := vaM_true hv
    obtain ⟨⟨h1, h12⟩, -⟩ := shM_form hP.1
    obtain ⟨ss, hss⟩ : ∃ ss, shTo xss ns ns.length = some ss := by
      cases e : shTo xss ns ns.length with
      | some ss => exact ⟨ss, rfl⟩
      | none => have := hP.1; rw [shM_n e] at this; cases this
    have hsM : (shM xss ns).1 = ss := by
      by_cases hI : insOk xss ∧ 1 ≤ ns.length ∧ ns.length ≤ 12
      · rw [shM_t hI hss]
      · have := hP.1; rw [shM_f hI] at this; cases this
    have hsl := shTo_len hss
    have hvl := vaTo_len hva
    obtain ⟨vs, hW⟩ : ∃ vs, (vaM xss ns ts).1 = vs := ⟨_, rfl⟩
    rw [hW] at hva hvl
    conv => whnf
    dsimp only
    repeat' (first
      | ((first | refine tree_inF [54] (id := 9) (.one 0 (.one 1 (.one 2 (.one 3 (.one 4 (.one 5 (.one 6 (.one 7 (.one 8 (.one 9 (.one 10 (.one 11 (.two 12 13 (.one 13 (.one 14 .nil)) (.one 12 (.one 14 .nil))))))))))))))) (by kernel_rfl) (by kernel_rfl) ?_ | refine plan_inF [54] (id := 14) [0, 1, 3, 4, 2, 5, 6, 7, 8] (by kernel_rfl) (by kernel_rfl) ?_ | refine aIf_t ?_ | refine aIf_f ?_ | refine aGet_in rfl ?_ | refine load_same ?_ | refine And.intro rfl (And.intro (List.cons_ne_nil _ _) ?_) | refine And.intro (Nat.le_of_ble_eq_true rfl) ?_); conv => whnf) | (refine held_in (f := 54) ?_) | ((first | refine callG_t ?_ | refine append_same ?_ | refine And.intro (pureL_ii _ _) ?_ | refine And.intro (pureL_nd _ _) ?_ | refine And.intro (pureL_tn _ _) ?_); conv => whnf) | (refine sSmoothOk_call (by first | omega | assumption | (refine ⟨?_, ?_⟩ <;> first | assumption | omega) | (refine ⟨?_, ?_, ?_⟩ <;> first | assumption | omega)) ?_; conv => whnf) | ((first | refine sValuesOf_call (by assumption) ?_ | refine sShapesOf_call (by assumption) ?_); conv => whnf) | (refine sInputsOk_call (by first | omega | assumption | (refine ⟨?_, ?_⟩ <;> first | assumption | omega) | (refine ⟨?_, ?_, ?_⟩ <;> first | assumption | omega)) ?_; conv => whnf) | ((first | refine takeN_in ?_ | refine set_force ?_ | refine And.intro (And.intro (by kernel_rfl) (And.intro rfl (Nat.le_of_ble_eq_true rfl))) ?_ | refine And.intro (by kernel_rfl) ?_ | refine aIf_tt (by assumption) ?_); conv => whnf) | refine aIf_eqf ?_
      | refine aIf_not ?_ | (refine aIf_dec (fun _ => ?_) (fun _ => ?_) <;> conv => whnf))
    all_goals (first | (exfalso; omega) | contradiction | skip)
    rw [hW, hsM]
    refine loop_ut (ι := M7) [false, false, true, true, false, false, true, false, true, false, true, false, true, true, false, false, false, false, false, false, false, false, false, false, false, false, false, false, false, false, false, false, false, false, false, false, false, false, false, false, false, false, false, false, false, false, false, false, false, false, false, false, false, false, false, false, false, false, false, false, false, false, false, false, false, false, false, false, false, false, false, false, false, false, false, false, false, false, false, false, false, false, false] (fun M => [(12, .ref 6 9 0 M.length), (13, .int .i64 M.length)]) (fun M => [(5, shF 3 ss M.length), (6, M.flatMap (m7O 3))]) (fun M => M.length ≤ ns.length ∧ slTo ns ss us vs M.length = some (M.map Prod.snd)) (fun M => ns.length - M.length) ([]) ⟨Nat.zero_le _, rfl⟩ ?_ ?_
    · conv => whnf
      refine St.le.to ?_
      conv => whnf
      repeat' (first | exact Or.inl (And.intro (pureL_oi _ _) (shF_0 _ _).symm) | refine And.intro ?_ ?_)
      repeat' (first
        | exact trivial | exact rfl
        | exact Or.inl (And.intro rfl rfl) | exact pureL_ii _ _
        | exact pureL_nd _ _ | exact pureL_tn _ _
        | exact Or.inl (And.intro (pureL_otn _ _) rfl) | refine Or.inr ?_
        | refine And.intro ?_ ?_ | exact Nat.le_of_ble_eq_true rfl)
    · rintro M ⟨hml, hls⟩
      have hml : M.length ≤ ns.length := hml
      have hfl : (M.flatMap (m7O 3)).length = M.length * 2 := flat_len (m7O_length _) M
      by_cases hlt : M.length < ns.length
      · have hp := SlP_of hP hu hE hss hva hlt hls
        have hlen : ∀ y : Nat × T2, (M ++ [y]).length = M.length + 1 := fun y => by simp
        cases hT : tensorOk (ss.getD M.length []) (slS (ns.getD M.length default) (ss.getD M.length []) us vs (M.map Prod.snd)) with
        | true =>
          have hm : slM (ns.getD M.length default) (ss.getD M.length []) us vs (M.map Prod.snd) = ((ss.getD M.length []), (slS (ns.getD M.length default) (ss.getD M.length []) us vs (M.map Prod.snd)), true) := told_t hT
          have hn' : slTo ns ss us vs (M.length + 1) = some ((M.map Prod.snd) ++ [((ss.getD M.length []), (slS (ns.getD M.length default) (ss.getD M.length []) us vs (M.map Prod.snd)))]) := by
            have := slTo_t hls (show (slM (ns.getD M.length default) (ss.getD M.length []) us vs (M.map Prod.snd)).2.2 = true by rw [hm])
            rw [hm] at this; exact this
          have hnx : ∀ c : Nat, slTo ns ss us vs (M ++ [(c, (ss.getD M.length []), (slS (ns.getD M.length default) (ss.getD M.length []) us vs (M.map Prod.snd)))]).length = some ((M ++ [(c, (ss.getD M.length []), (slS (ns.getD M.length default) (ss.getD M.length []) us vs (M.map Prod.snd)))]).map Prod.snd) := fun c => by
            rw [hlen, List.map_append]; exact hn'
          conv => whnf
          repeat' (first
            | ((first | refine tree_inF [54] (id := 9) (.one 0 (.one 1 (.one 2 (.one 3 (.one 4 (.one 5 (.one 6 (.one 7 (.one 8 (.one 9 (.one 10 (.one 11 (.two 12 13 (.one 13 (.one 14 .nil)) (.one 12 (.one 14 .nil))))))))))))))) (by kernel_rfl) (by kernel_rfl) ?_ | refine plan_inF [54] (id := 14) [0, 1, 3, 4, 2, 5, 6, 7, 8] (by kernel_rfl) (by kernel_rfl) ?_); conv => whnf) | (refine fork_in ?_ ?_ <;> conv => whnf) | ((first | refine fun (_ : _ ≤ maxLen) => ?_ | refine aGet_in rfl ?_ | refine And.intro (by omega) ?_ | refine load_same ?_); conv => whnf) | (refine held_in (f := 54) ?_) | ((first | refine append_same ?_ | refine part_nd_n (by omega) ?_ | refine get_shF (by omega) ?_ | refine takeN_in ?_ | refine And.intro (by kernel_rfl) ?_); conv => whnf) | (refine aIf_dec (fun _ => ?_) (fun _ => ?_) <;> conv => whnf))
          all_goals (first | (exfalso; omega) | contradiction | skip)
          all_goals
            refine held_out (l7Slope_callA hp rfl rfl rfl rfl (by decide) rfl rfl (by decide) rfl (fun h0 => ?_) (fun h9 => ?_) (fun h4 => ?_))
            · conv => whnf
              repeat' (first
                | ((first | refine tree_inF [54] (id := 9) (.one 0 (.one 1 (.one 2 (.one 3 (.one 4 (.one 5 (.one 6 (.one 7 (.one 8 (.one 9 (.one 10 (.one 11 (.two 12 13 (.one 13 (.one 14 .nil)) (.one 12 (.one 14 .nil))))))))))))))) (by kernel_rfl) (by kernel_rfl) ?_ | refine plan_inF [54] (id := 14) [0, 1, 3, 4, 2, 5, 6, 7, 8] (by kernel_rfl) (by kernel_rfl) ?_ | refine load_same ?_ | refine And.intro (Nat.le_of_ble_eq_true rfl) ?_); conv => whnf) | (refine held_in (f := 54) ?_) | ((first | refine callG_t ?_ | refine sTensorOk_call ?_ | refine append_same ?_ | refine takeN_in ?_ | refine And.intro (pureL_ints _ _) ?_ | refine set_force ?_ | refine And.intro (And.intro (by kernel_rfl) (And.intro rfl (Nat.le_of_ble_eq_true rfl))) ?_ | refine And.intro (by kernel_rfl) ?_ | refine aIf_tt (by assumption) ?_); conv => whnf) | refine aIf_not ?_)
              all_goals (first | (exfalso; omega) | contradiction | skip)
              refine append_tl rfl hfl rfl rfl rfl (by omega) (Nat.zero_le _) ?_
              conv => whnf
              repeat' (first
                | ((first | refine tree_inF [54] (id := 9) (.one 0 (.one 1 (.one 2 (.one 3 (.one 4 (.one 5 (.one 6 (.one 7 (.one 8 (.one 9 (.one 10 (.one 11 (.two 12 13 (.one 13 (.one 14 .nil)) (.one 12 (.one 14 .nil))))))))))))))) (by kernel_rfl) (by kernel_rfl) ?_ | refine plan_inF [54] (id := 14) [0, 1, 3, 4, 2, 5, 6, 7, 8] (by kernel_rfl) (by kernel_rfl) ?_); conv => whnf) | (refine held_in (f := 54) ?_) | (refine append_same ?_; conv => whnf))
              refine next_ut (M ++ [(1, (ss.getD M.length []), (slS (ns.getD M.length default) (ss.getD M.length []) us vs (M.map Prod.snd)))]) (by rw [hlen]; omega) ⟨by rw [hlen]; omega, hnx 1⟩ ?_
              rw [hlen]
              conv => whnf
              refine St.le.to ?_
              conv => whnf
              repeat' (first | exact le_m7a | exact le_shF (by omega) | refine And.intro ?_ ?_)
              repeat' (first
                | exact trivial | exact rfl
                | exact Or.inl (And.intro rfl rfl) | exact pureL_ii _ _
                | exact pureL_nd _ _ | exact pureL_tn _ _
                | exact Or.inl (And.intro (pureL_otn _ _) rfl) | refine Or.inr ?_
                | refine And.intro ?_ ?_ | exact Nat.le_of_ble_eq_true rfl
                | exact int_eq (by rw [IntWalk.i64_in _ (by omega)] <;> omega))
            · conv => whnf
              repeat' (first
                | ((first | refine tree_inF [54] (id := 9) (.one 0 (.one 1 (.one 2 (.one 3 (.one 4 (.one 5 (.one 6 (.one 7 (.one 8 (.one 9 (.one 10 (.one 11 (.two 12 13 (.one 13 (.one 14 .nil)) (.one 12 (.one 14 .nil))))))))))))))) (by kernel_rfl) (by kernel_rfl) ?_ | refine plan_inF [54] (id := 14) [0, 1, 3, 4, 2, 5, 6, 7, 8] (by kernel_rfl) (by kernel_rfl) ?_ | refine load_same ?_ | refine And.intro (Nat.le_of_ble_eq_true rfl) ?_); conv => whnf) | (refine held_in (f := 54) ?_) | ((first | refine callG_t ?_ | refine sTensorOk_call ?_ | refine append_same ?_ | refine takeN_in ?_ | refine cut_ints ?_ | refine set_force ?_ | refine And.intro (And.intro (by kernel_rfl) (And.intro rfl (Nat.le_of_ble_eq_true rfl))) ?_ | refine And.intro (by kernel_rfl) ?_ | refine aIf_tt (by assumption) ?_); conv => whnf) | refine aIf_not ?_)
              all_goals (first | (exfalso; omega) | contradiction | skip)
              refine append_tl rfl hfl rfl rfl rfl (by omega) (Nat.zero_le _) ?_
              conv => whnf
              repeat' (first
                | ((first | refine tree_inF [54] (id := 9) (.one 0 (.one 1 (.one 2 (.one 3 (.one 4 (.one 5 (.one 6 (.one 7 (.one 8 (.one 9 (.one 10 (.one 11 (.two 12 13 (.one 13 (.one 14 .nil)) (.one 12 (.one 14 .nil))))))))))))))) (by kernel_rfl) (by kernel_rfl) ?_ | refine plan_inF [54] (id := 14) [0, 1, 3, 4, 2, 5, 6, 7, 8] (by kernel_rfl) (by kernel_rfl) ?_); conv => whnf) | (refine held_in (f := 54) ?_) | (refine append_same ?_; conv => whnf))
              refine next_ut (M ++ [(0, (ss.getD M.length []), (slS (ns.getD M.length default) (ss.getD M.length []) us vs (M.map Prod.snd)))]) (by rw [hlen]; omega) ⟨by rw [hlen]; omega, hnx 0⟩ ?_
              rw [hlen]
              conv => whnf
              first
                | refine to_close 6 (M.length * 2 + 0) 7 _ _ 1 3 _ _ rfl (get_b0 hfl) rfl (by decide) (Nat.zero_le _) (by decide) (by simp) ?_ | refine to_close 6 (M.length * 2 + 0) 10 _ _ 1 3 _ _ rfl (get_b0 hfl) rfl (by decide) (Nat.zero_le _) (by decide) (by simp) ?_
              first
                | refine to_close 6 (M.length * 2 + 1) 8 _ _ 1 3 _ _ rfl (get_b1 hfl) rfl (by decide) (Nat.zero_le _) (by decide) (by simp) ?_ | refine to_close 6 (M.length * 2 + 1) 11 _ _ 1 3 _ _ rfl (get_b1 hfl) rfl (by decide) (Nat.zero_le _) (by decide) (by simp) ?_
              refine St.le.to ?_
              conv => whnf
              repeat' (first | exact le_m7b rfl | exact le_shF (by omega) | refine And.intro ?_ ?_)
              repeat' (first
                | exact trivial | exact rfl
                | exact Or.inl (And.intro rfl rfl) | exact pureL_ii _ _
                | exact pureL_nd _ _ | exact pureL_tn _ _
                | exact Or.inl (And.intro (pureL_otn _ _) rfl) | refine Or.inr ?_
                | refine And.intro ?_ ?_ | exact Nat.le_of_ble_eq_true rfl
                | exact int_eq (by rw [IntWalk.i64_in _ (by omega)] <;> omega))
            · conv => whnf
              repeat' (first
                | ((first | refine tree_inF [54] (id := 9) (.one 0 (.one 1 (.one 2 (.one 3 (.one 4 (.one 5 (.one 6 (.one 7 (.one 8 (.one 9 (.one 10 (.one 11 (.two 12 13 (.one 13 (.one 14 .nil)) (.one 12 (.one 14 .nil))))))))))))))) (by kernel_rfl) (by kernel_rfl) ?_ | refine plan_inF [54] (id := 14) [0, 1, 3, 4, 2, 5, 6, 7, 8] (by kernel_rfl) (by kernel_rfl) ?_ | refine load_same ?_ | refine And.intro (Nat.le_of_ble_eq_true rfl) ?_); conv => whnf) | (refine held_in (f := 54) ?_) | ((first | refine callG_t ?_ | refine sTensorOk_call ?_ | refine append_same ?_ | refine takeN_in ?_ | refine cut_ints ?_ | refine set_force ?_ | refine And.intro (And.intro (by kernel_rfl) (And.intro rfl (Nat.le_of_ble_eq_true rfl))) ?_ | refine And.intro (by kernel_rfl) ?_ | refine aIf_tt (by assumption) ?_); conv => whnf) | refine aIf_not ?_)
              all_goals (first | (exfalso; omega) | contradiction | skip)
              refine append_tl rfl hfl rfl rfl rfl (by omega) (Nat.zero_le _) ?_
              conv => whnf
              repeat' (first
                | ((first | refine tree_inF [54] (id := 9) (.one 0 (.one 1 (.one 2 (.one 3 (.one 4 (.one 5 (.one 6 (.one 7 (.one 8 (.one 9 (.one 10 (.one 11 (.two 12 13 (.one 13 (.one 14 .nil)) (.one 12 (.one 14 .nil))))))))))))))) (by kernel_rfl) (by kernel_rfl) ?_ | refine plan_inF [54] (id := 14) [0, 1, 3, 4, 2, 5, 6, 7, 8] (by kernel_rfl) (by kernel_rfl) ?_); conv => whnf) | (refine held_in (f := 54) ?_) | (refine append_same ?_; conv => whnf))
              refine next_ut (M ++ [(0, (ss.getD M.length []), (slS (ns.getD M.length default) (ss.getD M.length []) us vs (M.map Prod.snd)))]) (by rw [hlen]; omega) ⟨by rw [hlen]; omega, hnx 0⟩ ?_
              rw [hlen]
              conv => whnf
              first
                | refine to_close 6 (M.length * 2 + 0) 8 _ _ 1 3 _ _ rfl (get_b0 hfl) rfl (by decide) (Nat.zero_le _) (by decide) (by simp) ?_ | refine to_close 6 (M.length * 2 + 0) 11 _ _ 1 3 _ _ rfl (get_b0 hfl) rfl (by decide) (Nat.zero_le _) (by decide) (by simp) ?_
              first
                | refine to_close 6 (M.length * 2 + 1) 9 _ _ 1 3 _ _ rfl (get_b1 hfl) rfl (by decide) (Nat.zero_le _) (by decide) (by simp) ?_ | refine to_close 6 (M.length * 2 + 1) 12 _ _ 1 3 _ _ rfl (get_b1 hfl) rfl (by decide) (Nat.zero_le _) (by decide) (by simp) ?_
              refine St.le.to ?_
              conv => whnf
              repeat' (first | exact le_m7b rfl | exact le_shF (by omega) | refine And.intro ?_ ?_)
              repeat' (first
                | exact trivial | exact rfl
                | exact Or.inl (And.intro rfl rfl) | exact pureL_ii _ _
                | exact pureL_nd _ _ | exact pureL_tn _ _
                | exact Or.inl (And.intro (pureL_otn _ _) rfl) | refine Or.inr ?_
                | refine And.intro ?_ ?_ | exact Nat.le_of_ble_eq_true rfl
                | exact int_eq (by rw [IntWalk.i64_in _ (by omega)] <;> omega))
        | false =>
          have hm : (slM (ns.getD M.length default) (ss.getD M.length []) us vs (M.map Prod.snd)).2.2 = false := by
            show (told (ss.getD M.length []) (slS (ns.getD M.length default) (ss.getD M.length []) us vs (M.map Prod.snd))).2.2 = false
            rw [told_f hT]; rfl
          have hM := alM_n (show slTo ns (shM xss ns).1 us (vaM xss ns ts).1 ns.length = none by rw [hsM, hW]; exact slTo_none (slTo_f hls hm) _ (by omega))
          conv => whnf
          repeat' (first
            | ((first | refine tree_inF [54] (id := 9) (.one 0 (.one 1 (.one 2 (.one 3 (.one 4 (.one 5 (.one 6 (.one 7 (.one 8 (.one 9 (.one 10 (.one 11 (.two 12 13 (.one 13 (.one 14 .nil)) (.one 12 (.one 14 .nil))))))))))))))) (by kernel_rfl) (by kernel_rfl) ?_ | refine plan_inF [54] (id := 14) [0, 1, 3, 4, 2, 5, 6, 7, 8] (by kernel_rfl) (by kernel_rfl) ?_); conv => whnf) | (refine fork_in ?_ ?_ <;> conv => whnf) | ((first | refine fun (_ : _ ≤ maxLen) => ?_ | refine aGet_in rfl ?_ | refine And.intro (by omega) ?_ | refine load_same ?_); conv => whnf) | (refine held_in (f := 54) ?_) | ((first | refine append_same ?_ | refine part_nd_n (by omega) ?_ | refine get_shF (by omega) ?_ | refine takeN_in ?_ | refine And.intro (by kernel_rfl) ?_); conv => whnf) | (refine aIf_dec (fun _ => ?_) (fun _ => ?_) <;> conv => whnf))
          all_goals (first | (exfalso; omega) | contradiction | skip)
          all_goals
            refine held_out (l7Slope_callA hp rfl rfl rfl rfl (by decide) rfl rfl (by decide) rfl (fun h0 => ?_) (fun h9 => ?_) (fun h4 => ?_))
            all_goals
              conv => whnf
              repeat' (first
                | ((first | refine tree_inF [54] (id := 9) (.one 0 (.one 1 (.one 2 (.one 3 (.one 4 (.one 5 (.one 6 (.one 7 (.one 8 (.one 9 (.one 10 (.one 11 (.two 12 13 (.one 13 (.one 14 .nil)) (.one 12 (.one 14 .nil))))))))))))))) (by kernel_rfl) (by kernel_rfl) ?_ | refine plan_inF [54] (id := 14) [0, 1, 3, 4, 2, 5, 6, 7, 8] (by kernel_rfl) (by kernel_rfl) ?_ | refine load_same ?_ | refine And.intro (Nat.le_of_ble_eq_true rfl) ?_); conv => whnf) | (refine held_in (f := 54) ?_) | ((first | refine callG_t ?_ | refine sTensorOk_call ?_ | refine append_same ?_ | refine takeN_in ?_ | refine And.intro (pureL_ints _ _) ?_ | refine cut_ints ?_ | refine set_force ?_ | refine And.intro (by kernel_rfl) ?_ | refine aIf_ff (by assumption) ?_); conv => whnf) | refine aIf_not ?_)
            all_goals (first | (exfalso; omega) | contradiction | skip)
            all_goals (refine retTB (hM := hM) ?_ ?_ ?_ ?_ ?_ <;> first | exact rfl | decide | (simp; done))
      · have he : M.length = ns.length := by omega
        have hM := alM_t hC (show slTo ns (shM xss ns).1 us (vaM xss ns ts).1 ns.length = some (M.map Prod.snd) by rw [hsM, hW, ← he]; exact hls)
        have hok := slTo_ok hls
        have hll := allT_len hok (j := M.length - 1) (by rw [List.length_map]; omega)
        rw [m7_getD] at hll
        obtain ⟨hl1, hl2⟩ := hll
        conv => whnf
        repeat' (first
          | ((first | refine tree_inF [54] (id := 9) (.one 0 (.one 1 (.one 2 (.one 3 (.one 4 (.one 5 (.one 6 (.one 7 (.one 8 (.one 9 (.one 10 (.one 11 (.two 12 13 (.one 13 (.one 14 .nil)) (.one 12 (.one 14 .nil))))))))))))))) (by kernel_rfl) (by kernel_rfl) ?_ | refine plan_inF [54] (id := 14) [0, 1, 3, 4, 2, 5, 6, 7, 8] (by kernel_rfl) (by kernel_rfl) ?_); conv => whnf) | (refine fork_in ?_ ?_ <;> conv => whnf) | ((first | refine fun (_ : _ ≤ maxLen) => ?_ | refine aGet_in rfl ?_ | refine And.intro (by omega) ?_); conv => whnf) | (refine held_in (f := 54) ?_) | ((first | refine append_same ?_ | refine part_nd_n (by omega) ?_ | refine get_shF (by omega) ?_); conv => whnf) | (refine aIf_dec (fun _ => ?_) (fun _ => ?_) <;> conv => whnf))
        all_goals (first | (exfalso; omega) | contradiction | skip)
        have hw : IntKind.i64.wrap ((M.length : Int) - 1) = (M.length : Int) - 1 := by simp only [IntKind.wrap_i64]; omega
        have ho : 0 + ((M.length : Int) - 1).toNat * (0 + 2) = (M.length - 1) * 2 := by omega
        obtain ⟨A, B, hA, hs, -⟩ := flat_split (f := m7O 3) (fun x => m7O_length _ x) (0, [], []) (l := M) (k := M.length - 1) (by omega)
        have hM2 : alM xss ns ts us = ((M.getD (M.length - 1) (0, [], [])).2.1, (M.getD (M.length - 1) (0, [], [])).2.2, true) := by
          rw [hM, ← he]
          show (((M.map Prod.snd).getD (M.length - 1) ([], [])).1, ((M.map Prod.snd).getD (M.length - 1) ([], [])).2, true) = _
          rw [m7_getD]
        rw [hw]
        refine And.intro (by omega) ?_
        rw [ho, hs]
        by_cases h0 : (M.getD (M.length - 1) (0, [], [])).1 = 0
        · rw [show m7O 3 (M.getD (M.length - 1) (0, [], [])) = tnO 3 (M.getD (M.length - 1) (0, [], [])).2 from if_pos h0]
          conv => whnf
          refine Exists.intro _ (And.intro (St.opens.step _ _ 6 ((M.length - 1) * 2 + 0) _ 3 1 _ _ rfl (get_a0 hA) (St.opens.step _ _ 6 ((M.length - 1) * 2 + 1) _ 3 1 _ _ rfl (get_a1 hA) (St.opens.refl _))) ?_)
          refine load_in7 rfl rfl (drop_ab7 hA) ?_
          conv => whnf
          repeat' (first
            | ((first | refine tree_inF [54] (id := 9) (.one 0 (.one 1 (.one 2 (.one 3 (.one 4 (.one 5 (.one 6 (.one 7 (.one 8 (.one 9 (.one 10 (.one 11 (.two 12 13 (.one 13 (.one 14 .nil)) (.one 12 (.one 14 .nil))))))))))))))) (by kernel_rfl) (by kernel_rfl) ?_ | refine plan_inF [54] (id := 14) [0, 1, 3, 4, 2, 5, 6, 7, 8] (by kernel_rfl) (by kernel_rfl) ?_ | refine aGet_in rfl ?_ | refine And.intro (Nat.le_of_ble_eq_true rfl) ?_); conv => whnf) | (refine held_in (f := 54) ?_) | ((first | refine l2Nums_call (by omega) ?_ | refine append_same ?_ | refine takeN_in ?_ | refine cut_ints ?_ | refine set_force ?_ | refine And.intro (by kernel_rfl) ?_); conv => whnf))
          all_goals (refine retTB (hM := hM2) ?_ ?_ ?_ ?_ ?_ <;> first | exact rfl | decide | (simp; done))
        · rw [show m7O 3 (M.getD (M.length - 1) (0, [], [])) = tnC (M.getD (M.length - 1) (0, [], [])).1 (M.getD (M.length - 1) (0, [], [])).2 from if_neg h0]
          conv => whnf
          refine Exists.intro _ (And.intro (St.opens.refl _) ?_)
          refine load_in7 rfl rfl (show (A ++ (tnC _ _ ++ B)).drop ((M.length - 1) * 2) = _ from by rw [← hA, List.drop_left]) ?_
          conv => whnf
          repeat' (first
            | ((first | refine tree_inF [54] (id := 9) (.one 0 (.one 1 (.one 2 (.one 3 (.one 4 (.one 5 (.one 6 (.one 7 (.one 8 (.one 9 (.one 10 (.one 11 (.two 12 13 (.one 13 (.one 14 .nil)) (.one 12 (.one 14 .nil))))))))))))))) (by kernel_rfl) (by kernel_rfl) ?_ | refine plan_inF [54] (id := 14) [0, 1, 3, 4, 2, 5, 6, 7, 8] (by kernel_rfl) (by kernel_rfl) ?_ | refine aGet_in rfl ?_ | refine And.intro (Nat.le_of_ble_eq_true rfl) ?_); conv => whnf) | (refine held_in (f := 54) ?_) | ((first | refine l2Nums_call (by omega) ?_ | refine append_same ?_ | refine takeN_in ?_ | refine And.intro (pureL_ints _ _) ?_ | refine set_force ?_ | refine And.intro (by kernel_rfl) ?_); conv => whnf))
          all_goals (refine retTB (hM := hM2) ?_ ?_ ?_ ?_ ?_ <;> first | exact rfl | decide | (simp; done))
  · have hM := alM_f hC
    cases hv : (vaM xss ns ts).2 with
    | false =>
      conv => whnf
      repeat' (first
        | ((first | refine tree_inF [54] (id := 9) (.one 0 (.one 1 (.one 2 (.one 3 (.one 4 (.one 5 (.one 6 (.one 7 (.one 8 (.one 9 (.one 10 (.one 11 (.two 12 13 (.one 13 (.one 14 .nil)) (.one 12 (.one 14 .nil))))))))))))))) (by kernel_rfl) (by kernel_rfl) ?_ | refine plan_inF [54] (id := 14) [0, 1, 3, 4, 2, 5, 6, 7, 8] (by kernel_rfl) (by kernel_rfl) ?_ | refine aIf_t ?_ | refine aIf_f ?_ | refine aGet_in rfl ?_ | refine load_same ?_ | refine And.intro rfl (And.intro (List.cons_ne_nil _ _) ?_) | refine And.intro (Nat.le_of_ble_eq_true rfl) ?_); conv => whnf) | (refine held_in (f := 54) ?_) | ((first | refine callG_t ?_ | refine append_same ?_ | refine And.intro (pureL_ii _ _) ?_ | refine And.intro (pureL_nd _ _) ?_ | refine And.intro (pureL_tn _ _) ?_ | refine sValuesOf_call (by assumption) ?_ | refine takeN_in ?_ | refine set_force ?_ | refine And.intro (by kernel_rfl) ?_ | refine aIf_ff (by assumption) ?_); conv => whnf) | refine aIf_eqf ?_
        | refine aIf_not ?_)
      all_goals (first | (exfalso; omega) | contradiction | skip)
      all_goals (refine retTB (hM := hM) ?_ ?_ ?_ ?_ ?_ <;> first | exact rfl | decide | (simp; done))
    | true =>
      by_cases hS : smP xss ns
      · have hU : ¬ inP xss ns us := fun h => hC ⟨hv, hS, h⟩
        conv => whnf
        repeat' (first
          | ((first | refine tree_inF [54] (id := 9) (.one 0 (.one 1 (.one 2 (.one 3 (.one 4 (.one 5 (.one 6 (.one 7 (.one 8 (.one 9 (.one 10 (.one 11 (.two 12 13 (.one 13 (.one 14 .nil)) (.one 12 (.one 14 .nil))))))))))))))) (by kernel_rfl) (by kernel_rfl) ?_ | refine plan_inF [54] (id := 14) [0, 1, 3, 4, 2, 5, 6, 7, 8] (by kernel_rfl) (by kernel_rfl) ?_ | refine aIf_t ?_ | refine aIf_f ?_ | refine aGet_in rfl ?_ | refine load_same ?_ | refine And.intro rfl (And.intro (List.cons_ne_nil _ _) ?_) | refine And.intro (Nat.le_of_ble_eq_true rfl) ?_); conv => whnf) | (refine held_in (f := 54) ?_) | ((first | refine callG_t ?_ | refine append_same ?_ | refine And.intro (pureL_ii _ _) ?_ | refine And.intro (pureL_nd _ _) ?_ | refine And.intro (pureL_tn _ _) ?_); conv => whnf) | (refine sSmoothOk_call (by first | omega | assumption | (refine ⟨?_, ?_⟩ <;> first | assumption | omega) | (refine ⟨?_, ?_, ?_⟩ <;> first | assumption | omega)) ?_; conv => whnf) | ((first | refine sValuesOf_call (by assumption) ?_ | refine sShapesOf_call (by assumption) ?_); conv => whnf) | (refine sInputsOk_call (by first | omega | assumption | (refine ⟨?_, ?_⟩ <;> first | assumption | omega) | (refine ⟨?_, ?_, ?_⟩ <;> first | assumption | omega)) ?_; conv => whnf) | ((first | refine takeN_in ?_ | refine set_force ?_ | refine And.intro (And.intro (by kernel_rfl) (And.intro rfl (Nat.le_of_ble_eq_true rfl))) ?_ | refine And.intro (by kernel_rfl) ?_ | refine aIf_tt (by assumption) ?_); conv => whnf) | refine aIf_eqf ?_
          | refine aIf_not ?_ | (refine aIf_dec (fun _ => ?_) (fun _ => ?_) <;> conv => whnf))
        all_goals (first | (exfalso; omega) | contradiction | skip)
        all_goals (refine retTB (hM := hM) ?_ ?_ ?_ ?_ ?_ <;> first | exact rfl | decide | (simp; done))
      · conv => whnf
        repeat' (first
          | ((first | refine tree_inF [54] (id := 9) (.one 0 (.one 1 (.one 2 (.one 3 (.one 4 (.one 5 (.one 6 (.one 7 (.one 8 (.one 9 (.one 10 (.one 11 (.two 12 13 (.one 13 (.one 14 .nil)) (.one 12 (.one 14 .nil))))))))))))))) (by kernel_rfl) (by kernel_rfl) ?_ | refine plan_inF [54] (id := 14) [0, 1, 3, 4, 2, 5, 6, 7, 8] (by kernel_rfl) (by kernel_rfl) ?_ | refine aIf_t ?_ | refine aIf_f ?_ | refine aGet_in rfl ?_ | refine load_same ?_ | refine And.intro rfl (And.intro (List.cons_ne_nil _ _) ?_) | refine And.intro (Nat.le_of_ble_eq_true rfl) ?_); conv => whnf) | (refine held_in (f := 54) ?_) | ((first | refine callG_t ?_ | refine append_same ?_ | refine And.intro (pureL_ii _ _) ?_ | refine And.intro (pureL_nd _ _) ?_ | refine And.intro (pureL_tn _ _) ?_); conv => whnf) | (refine sSmoothOk_call (by first | omega | assumption | (refine ⟨?_, ?_⟩ <;> first | assumption | omega) | (refine ⟨?_, ?_, ?_⟩ <;> first | assumption | omega)) ?_; conv => whnf) | ((first | refine sValuesOf_call (by assumption) ?_ | refine sShapesOf_call (by assumption) ?_); conv => whnf) | (refine sInputsOk_call (by first | omega | assumption | (refine ⟨?_, ?_⟩ <;> first | assumption | omega) | (refine ⟨?_, ?_, ?_⟩ <;> first | assumption | omega)) ?_; conv => whnf) | ((first | refine takeN_in ?_ | refine set_force ?_ | refine And.intro (And.intro (by kernel_rfl) (And.intro rfl (Nat.le_of_ble_eq_true rfl))) ?_ | refine And.intro (by kernel_rfl) ?_ | refine aIf_tt (by assumption) ?_); conv => whnf) | refine aIf_eqf ?_
          | refine aIf_not ?_ | (refine aIf_dec (fun _ => ?_) (fun _ => ?_) <;> conv => whnf))
        all_goals (first | (exfalso; omega) | contradiction | skip)
        all_goals (refine retTB (hM := hM) ?_ ?_ ?_ ?_ ?_ <;> first | exact rfl | decide | (simp; done))
theorem sAlongOf_sound : Sound Tryz.prog 16 sAlongOf := by
  have h1 : Sound Tryz.prog 16 { sAlongOf with args := fun | (_, xss, ns, _, ts, _, us) => [.agg [.sl 1 xss.length (xss.map (slI 1)), .sl 1 ns.length (ns.flatMap (ndC 1))], .sl 1 ts.length (ts.flatMap (tnC 1)), .sl 1 us.length (us.flatMap (tnC 1))] } := by
    refine ⟨sAlongOf_sound1.1, ?_⟩
    rintro ⟨c, xss, ns, d, ts, e, us⟩ hpre
    exact sAlongOf_sound1.2 (1, xss, ns, 1, ts, 1, us) hpre
  refine sound_one (sp := { sAlongOf with args := fun | (_, xss, ns, _, ts, _, us) => [.agg [.sl 1 xss.length (xss.map (slI 1)), .sl 1 ns.length (ns.flatMap (ndC 1))], .sl 1 ts.length (ts.flatMap (tnC 1)), .sl 1 us.length (us.flatMap (tnC 1))] }) sAlongOf.args h1 (fun _ => rfl) ?_ ?_
  · rintro ⟨c, xss, ns, d, ts, e, us⟩
    show [.agg [.sl 1 xss.length (xss.map (slI 1)), .sl 1 ns.length (ns.flatMap (ndC 1))], .sl 1 ts.length (ts.flatMap (tnC 1)), .sl 1 us.length (us.flatMap (tnC 1))] = oneL [.agg [.sl c xss.length (xss.map (slI c)), .sl c ns.length (ns.flatMap (ndC c))], .sl d ts.length (ts.flatMap (tnC d)), .sl e us.length (us.flatMap (tnC e))]
    simp only [oneL, AV.one, oneL_ii, oneL_nd, oneL_tn7]
  · rintro ⟨c, xss, ns, d, ts, e, us⟩ r ic news ⟨-, rfl, rfl⟩
    refine ⟨rfl, fun m hm => ?_⟩
    rcases List.mem_cons.1 hm with rfl | hm
    · exact bareL_ints _ _
    · rw [List.mem_singleton] at hm; subst hm; exact bareL_ints _ _
theorem iAlongOf_call {c d e : Nat} {xss : List (List Int)} {ns : List Nd} {ts us : List T2} {env : List AV} {rows : List Row} {ctr low : Nat} {k : AV → St → Prop} (hpre : eP ns)
    (hk : k (.tup [.agg [.ref rows.length ctr 0 (alM xss ns ts us).1.length, .ref (rows.length + 1) ctr 0 (alM xss ns ts us).2.1.length], .bool (alM xss ns ts us).2.2]) ⟨env, rows ++ [⟨ctr, 3, 1, (alM xss ns ts us).1.map (.int .i64)⟩, ⟨ctr, 3, 1, (alM xss ns ts us).2.1.map (.int .i64)⟩], ctr + 1, low⟩) :
    CallB Tryz.prog 18 ⟨env, rows, ctr, low⟩ [.agg [.sl c xss.length (xss.map (slI c)), .sl c ns.length (ns.flatMap (ndC c))], .sl d ts.length (ts.flatMap (tnC d)), .sl e us.length (us.flatMap (tnC e))] k := callTB_in iAlongOf_sound (c, xss, ns, d, ts, e, us) hpre hk
theorem sAlongOf_call {c d e : Nat} {xss : List (List Int)} {ns : List Nd} {ts us : List T2} {env : List AV} {rows : List Row} {ctr low : Nat} {k : AV → St → Prop} (hpre : eP ns)
    (hk : k (.tup [.agg [.ref rows.length ctr 0 (alM xss ns ts us).1.length, .ref (rows.length + 1) ctr 0 (alM xss ns ts us).2.1.length], .bool (alM xss ns ts us).2.2]) ⟨env, rows ++ [⟨ctr, 3, 1, (alM xss ns ts us).1.map (.int .i64)⟩, ⟨ctr, 3, 1, (alM xss ns ts us).2.1.map (.int .i64)⟩], ctr + 1, low⟩) :
    CallB Tryz.prog 16 ⟨env, rows, ctr, low⟩ [.agg [.sl c xss.length (xss.map (slI c)), .sl c ns.length (ns.flatMap (ndC c))], .sl d ts.length (ts.flatMap (tnC d)), .sl e us.length (us.flatMap (tnC e))] k := callTB_in sAlongOf_sound (c, xss, ns, d, ts, e, us) hpre hk
end Go.Proofs.YtjmdhfjemaoebaaGreat
