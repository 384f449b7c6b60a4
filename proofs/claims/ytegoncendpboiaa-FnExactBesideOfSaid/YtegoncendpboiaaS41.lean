/- Chapter 2: BesideOf of the model, the whole. -/
import Derived.Test.YtegoncendpboiaaS40
namespace Go.Proofs.Ytegoncendpboiaa
set_option maxRecDepth 20000
open Go.RowKit Go.Am
theorem l2Beside_call {c d e f : Nat} {xs zs ps qs : List Int} {a : Nat} {env : List AV} {rows : List Row} {ctr low τ ver n : Nat} {k : AV → St → Prop} (hpre : bsP xs zs ps qs a) (hr : rows[τ]? = some ⟨ver, 3, 1, (bsSh xs a (ps.getD a 0)).map (.int .i64)⟩) (hn : n = (bsSh xs a (ps.getD a 0)).length)
    (hk : k (.agg [.ref τ ver 0 n, .ref rows.length ctr 0 (bsL xs zs qs a (ps.getD a 0)).length]) ⟨env, setRows rows [τ] [(bsSh xs a (ps.getD a 0)).map (.int .i64)] ++ [⟨ctr, 3, 1, (bsL xs zs qs a (ps.getD a 0)).map (.int .i64)⟩], ctr + 1, low⟩) :
    CallG Try.prog 74 ⟨env, rows, ctr, low⟩ [.agg [.sl c xs.length (xs.map (.int .i64)), .sl d zs.length (zs.map (.int .i64))], .agg [.sl e ps.length (ps.map (.int .i64)), .sl f qs.length (qs.map (.int .i64))], .int .i64 a, .ref τ ver 0 n] k := by
  subst hn
  refine .inr ⟨[τ], _, l2Beside_sound, [.agg [.sl c xs.length (xs.map (.int .i64)), .sl d zs.length (zs.map (.int .i64))], .agg [.sl e ps.length (ps.map (.int .i64)), .sl f qs.length (qs.map (.int .i64))], .int .i64 a, .ref 0 0 0 (bsSh xs a (ps.getD a 0)).length], [⟨0, 3, 1, (bsSh xs a (ps.getD a 0)).map (.int .i64)⟩], by simp, ?_, ?_, (c, xs, d, zs, e, ps, f, qs, a), rfl, rfl, hpre, ?_⟩
  · have e1 : ∀ (c d : Nat) (us vs : List Int), callArg ⟨env, rows, ctr, low⟩ [τ] false (.agg [.sl c us.length (us.map (.int .i64)), .sl d vs.length (vs.map (.int .i64))]) = some (.agg [.sl c us.length (us.map (.int .i64)), .sl d vs.length (vs.map (.int .i64))]) := fun c d us vs =>
      tree_agg (mapM_next (tree_sl (pureL_ints _ _)) (mapM_next (tree_sl (pureL_ints _ _)) rfl))
    have e3 : callArg ⟨env, rows, ctr, low⟩ [τ] false (.int .i64 (a : Int)) = some (.int .i64 a) := rfl
    have e4 : callArg ⟨env, rows, ctr, low⟩ [τ] true (.ref τ ver 0 (bsSh xs a (ps.getD a 0)).length) = some (.ref 0 0 0 (bsSh xs a (ps.getD a 0)).length) := by
      simp [callArg, AV.ren, hr]
    show (callArg _ [τ] false _).bind _ = _
    rw [e1]
    show ((callArg _ [τ] false _).bind _).map _ = _
    rw [e1]
    show (((callArg _ [τ] false _).bind _).map _).map _ = _
    rw [e3]
    show ((((callArg _ [τ] true _).bind _).map _).map _).map _ = _
    rw [e4]
    rfl
  · simp [insOf, hr, protL_ren (protL_ints .i64 (bsSh xs a (ps.getD a 0))), -List.getD_eq_getElem?_getD]
  · rintro r ic news ⟨rfl, rfl, rfl⟩ _
    have ev : verOf ⟨env, rows, ctr, low⟩ τ = ver := by simp [verOf, hr]
    have eb : (AV.agg [.ref 0 0 0 (bsSh xs a (ps.getD a 0)).length, .ref 1 0 0 (bsL xs zs qs a (ps.getD a 0)).length]).back ⟨env, rows, ctr, low⟩ [τ] = .agg [.ref τ ver 0 (bsSh xs a (ps.getD a 0)).length, .ref rows.length ctr 0 (bsL xs zs qs a (ps.getD a 0)).length] := by
      simp [AV.back, Go.Am.backL, backT, backV, -List.getD_eq_getElem?_getD]
      exact ⟨rfl, ev⟩
    rw [eb]
    show k _ ⟨env, setRows rows [τ] [Go.Am.backL _ [τ] ((bsSh xs a (ps.getD a 0)).map (.int .i64))] ++ (St.news _ [τ] [⟨0, 3, 1, (bsL xs zs qs a (ps.getD a 0)).map (.int .i64)⟩]), ctr + 1, low⟩
    rw [protL_back (protL_ints _ _), news_prot (protL_ints _ _)]
    exact hk
theorem l2Beside_callL {c d e f : Nat} {xs zs ps qs L : List Int} {a : Nat} {env : List AV} {rows : List Row} {ctr low τ ver n : Nat} {k : AV → St → Prop} (hpre : bsP xs zs ps qs a) (hL : L = bsSh xs a (ps.getD a 0)) (hr : rows[τ]? = some ⟨ver, 3, 1, L.map (.int .i64)⟩) (hn : n = L.length)
    (hk : k (.agg [.ref τ ver 0 n, .ref rows.length ctr 0 (bsL xs zs qs a (ps.getD a 0)).length]) ⟨env, setRows rows [τ] [L.map (.int .i64)] ++ [⟨ctr, 3, 1, (bsL xs zs qs a (ps.getD a 0)).map (.int .i64)⟩], ctr + 1, low⟩) :
    CallG Try.prog 74 ⟨env, rows, ctr, low⟩ [.agg [.sl c xs.length (xs.map (.int .i64)), .sl d zs.length (zs.map (.int .i64))], .agg [.sl e ps.length (ps.map (.int .i64)), .sl f qs.length (qs.map (.int .i64))], .int .i64 a, .ref τ ver 0 n] k := by
  subst hL; exact l2Beside_call hpre hr hn hk
attribute [local irreducible] aPlan aGet aIf aLoop aCall RetB NextB CallB CallG aCut aSet aAppend

theorem wo_eq {xs ps : List Int} {a : Nat} (hl : xs.length = ps.length) (ha : a < xs.length) : wo xs a = wo ps a ↔ ps = xs.set a (ps.getD a 0) := by
  have e1 : ps = ps.take a ++ ([ps.getD a 0] ++ ps.drop (a + 1)) := by
    conv => lhs; rw [← List.take_append_drop a ps]
    congr 1
    rw [List.drop_eq_getElem_cons (by omega)]; simp [List.getD, List.getElem?_eq_getElem (show a < ps.length by omega)]
  have e2 : xs.set a (ps.getD a 0) = xs.take a ++ ([ps.getD a 0] ++ xs.drop (a + 1)) := by
    rw [List.set_eq_take_append_cons_drop, if_pos ha]; rfl
  constructor
  · intro h
    unfold wo at h
    have hlen : (xs.take a).length = (ps.take a).length := by simp; omega
    obtain ⟨h1, h2⟩ := List.append_inj h hlen
    rw [e2, h1, h2]; exact e1
  · intro h
    rw [e2] at h
    have h := e1.symm.trans h
    have hlen : (ps.take a).length = (xs.take a).length := by simp; omega
    obtain ⟨h1, h2⟩ := List.append_inj h hlen
    have h3 : ps.drop (a + 1) = xs.drop (a + 1) := by simpa using h2
    unfold wo
    rw [h1, h3]
set_option maxHeartbeats 8000000 in
theorem sBesideOf_sound : Sound Try.prog 17 sBesideOf := by
  refine sound_of Try.func17 rfl (enters_of Try.func17 (by kernel_rfl) (by kernel_rfl)) ?_
  rintro ⟨c, xs, d, zs, e, ps, f, qs, i⟩ -
  have hmax : maxLen = 9223372036854775807 := rfl
  rcases tensor_or xs zs with ⟨ht, hx, hz⟩ | ht
  · rcases tensor_or ps qs with ⟨hu, hy, hw⟩ | hu
    · have hs := ((tensorOk_iff _ _).1 ht).1
      have hs' := ((tensorOk_iff _ _).1 hu).1
      by_cases hP : bshP xs ps i
      · obtain ⟨a, rfl⟩ : ∃ a : Nat, i = a := ⟨i.toNat, by have := hP.2.1; omega⟩
        have hL := bshL_t hP
        have hQ : bsP xs zs ps qs (a : Int) := ⟨ht, hu, hP.2.1, by
          have h := hP.2.2.1
          rw [Int.toNat_natCast] at h ⊢
          exact (wo_eq hP.1 (by have := hP.2.1; omega)).1 h, hP.2.2.2⟩
        have hM : bsM xs zs ps qs (a : Int) = (bshL xs ps (a : Int), bsL xs zs qs a (ps.getD a 0), true) := by rw [hL]; exact bsM_t hQ
        have hd : decide (bshP xs ps (a : Int)) = true := decide_eq_true hP
        conv => whnf
        repeat' (first
          | (refine aIf_t ?_; conv => whnf)
          | (refine aIf_f ?_; conv => whnf)
          | (refine fun (_ : _ ≤ maxLen) => ?_; conv => whnf)
          | (refine get_nat0 (by omega) ?_; conv => whnf)
          | (refine get_int0 (by omega) ?_; conv => whnf)
          | (refine get_nat (by omega) ?_; conv => whnf)
          | (refine get_int (by omega) ?_; conv => whnf)
          | (refine aGet_in rfl ?_; conv => whnf)
          | (refine And.intro (And.intro (Int.le_refl _) (And.intro (by kernel_rfl) (And.intro rfl (by kernel_rfl)))) (And.intro (And.intro (by omega) (And.intro (bytes_le (b := 8) rfl (by omega)) (by omega))) ?_); conv => whnf)
          | (refine And.intro (by omega) ?_; conv => whnf)
          | (refine load_same ?_; conv => whnf)
          | (refine And.intro (by rw [List.length_map]; omega) ?_; conv => whnf)
          | (refine And.intro rfl (And.intro (List.cons_ne_nil _ _) ?_); conv => whnf)
          | (refine And.intro (Nat.le_of_ble_eq_true rfl) ?_; conv => whnf)
          | (refine l2Beside_callL (by assumption) (by assumption) rfl rfl ?_; conv => whnf)
          | (refine callG_t ?_; conv => whnf)
          | (refine sTensorOk_call ?_; conv => whnf)
          | (refine And.intro (And.intro (Int.le_refl _) (And.intro (by kernel_rfl) (And.intro rfl (by kernel_rfl)))) (And.intro (And.intro (by omega) (And.intro (bytes_le (b := 24) rfl (by omega)) (by omega))) ?_); conv => whnf)
          | (refine And.intro (And.intro (Int.le_refl _) (And.intro (by kernel_rfl) (And.intro rfl (by kernel_rfl)))) (And.intro (And.intro (by omega) (And.intro (bytes_le (b := 48) rfl (by omega)) (by omega))) ?_); conv => whnf)
          | (refine And.intro rfl (And.intro rfl (And.intro (by rw [fillC_length (by omega)]; omega) ?_)); conv => whnf)
          | (refine And.intro rfl (And.intro rfl (And.intro (by rw [fillF_length (ndO_length _) rfl (by omega)]; omega) ?_)); conv => whnf)
          | (refine And.intro rfl (And.intro rfl (And.intro (by rw [fillF_length (tnO_length _) rfl (by omega)]; omega) ?_)); conv => whnf)
          | (refine set_fillC (by omega) (by omega) ?_; conv => whnf)
          | (refine set_fillF (ndO_length _) (by omega) rfl ?_; conv => whnf)
          | (refine set_fillF (tnO_length _) (by omega) rfl ?_; conv => whnf)
          | (refine And.intro (ond_fit (by omega) (Nat.le_of_ble_eq_true rfl)) ?_; conv => whnf)
          | (refine set_ond (by omega) (Nat.le_of_ble_eq_true rfl) ⟨_, rfl⟩ (fun _ _ _ _ => ?_); conv => whnf)
          | (refine get_oi_n (by omega) ?_; conv => whnf)
          | (refine get_ond_n (by omega) rfl ?_; conv => whnf)
          | (refine get_otn_n (by omega) rfl ?_; conv => whnf)
          | (refine l2BesideShape_call (by first | omega | assumption | (refine ⟨?_, ?_⟩ <;> first | assumption | omega) | (refine ⟨?_, ?_, ?_⟩ <;> first | assumption | omega)) ?_; conv => whnf)
          | (refine takeN_in ?_; conv => whnf)
          | (refine And.intro (pureL_ints _ _) ?_; conv => whnf)
          | (refine And.intro (pureL_take _ _ _) ?_; conv => whnf)
          | (refine And.intro (pureL_cut _ _ _ _) ?_; conv => whnf)
          | (refine cut_ints ?_; conv => whnf)
          | (refine cut_marks ?_; conv => whnf)
          | (refine cut_all rfl (scalL_ints _ _) ?_; conv => whnf)
          | (refine cut_all (by simp only [List.length_map]; omega) (scalL_ints _ _) ?_; conv => whnf)
          | (refine append_int rfl rfl (by first | rfl | (simp only [List.length_take, turned_length]; omega)) (by omega) (Nat.le_of_ble_eq_true rfl) ?_; conv => whnf)
          | (refine And.intro rfl (And.intro rfl (And.intro (by first | omega | (rw [List.length_map]; omega)) ?_)); conv => whnf)
          | (refine set_nat ?_ (by omega); conv => whnf)
          | (refine set_int ?_ (by omega); conv => whnf)
          | (refine set_bool ?_ (by omega); conv => whnf)
          | (refine set_force ?_; conv => whnf)
          | (refine get_bool0 (by omega) ?_; conv => whnf)
          | (refine And.intro (And.intro (Int.le_refl _) (And.intro (by kernel_rfl) (And.intro rfl (by kernel_rfl)))) (And.intro (And.intro (by omega) (And.intro (bytes_le (b := 1) rfl (by omega)) (by omega))) ?_); conv => whnf)
          | (refine And.intro (And.intro (by kernel_rfl) (And.intro rfl (Nat.le_of_ble_eq_true rfl))) ?_; conv => whnf)
          | (refine And.intro (And.intro (by kernel_rfl) (by kernel_rfl)) ?_; conv => whnf)
          | (refine And.intro (by kernel_rfl) ?_; conv => whnf)
          | (refine aIf_tt (by assumption) ?_; conv => whnf)
          | (refine aIf_ff (by assumption) ?_; conv => whnf)
          | refine aIf_eqt ?_
          | refine aIf_eqf ?_
          | refine aIf_not ?_
          | (refine aIf_bself ?_; conv => whnf)
          | (refine aIf_beself ?_; conv => whnf)
          | (refine aIf_iself ?_; conv => whnf)
          | (refine aIf_decself ?_; conv => whnf)
          | (refine aIf_dec (fun _ => ?_) (fun _ => ?_) <;> conv => whnf)
          | (refine aIf_beq (fun _ => ?_) (fun _ => ?_) <;> conv => whnf)
          | (refine aIf_bne (fun _ => ?_) (fun _ => ?_) <;> conv => whnf)
          | (refine aIf_bbne (fun _ => ?_) (fun _ => ?_) <;> conv => whnf)
          | (refine aIf_bbeq (fun _ => ?_) (fun _ => ?_) <;> conv => whnf)
          | (refine aIf_in (fun _ => ?_) (fun _ => ?_) <;> conv => whnf))
        all_goals (first | (exfalso; omega) | (exfalso; exact absurd hP (by assumption)) | skip)
        refine retTB (hM := hM) ?_ ?_ ?_ ?_ ?_
        all_goals (first | exact rfl | decide | (simp; done))
      · have hC : ¬ bsP xs zs ps qs i := fun h => hP ⟨by have := congrArg List.length h.2.2.2.1; rw [List.length_set] at this; omega, h.2.2.1, by
          have h4 := h.2.2.2.1
          have hl : xs.length = ps.length := by have := congrArg List.length h4; rw [List.length_set] at this; omega
          exact (wo_eq hl (by have := h.2.2.1; omega)).2 h4, h.2.2.2.2⟩
        have hd : decide (bshP xs ps i) = false := decide_eq_false hP
        conv => whnf
        repeat' (first
          | (refine aIf_t ?_; conv => whnf)
          | (refine aIf_f ?_; conv => whnf)
          | (refine fun (_ : _ ≤ maxLen) => ?_; conv => whnf)
          | (refine get_nat0 (by omega) ?_; conv => whnf)
          | (refine get_int0 (by omega) ?_; conv => whnf)
          | (refine get_nat (by omega) ?_; conv => whnf)
          | (refine get_int (by omega) ?_; conv => whnf)
          | (refine aGet_in rfl ?_; conv => whnf)
          | (refine And.intro (And.intro (Int.le_refl _) (And.intro (by kernel_rfl) (And.intro rfl (by kernel_rfl)))) (And.intro (And.intro (by omega) (And.intro (bytes_le (b := 8) rfl (by omega)) (by omega))) ?_); conv => whnf)
          | (refine And.intro (by omega) ?_; conv => whnf)
          | (refine load_same ?_; conv => whnf)
          | (refine And.intro (by rw [List.length_map]; omega) ?_; conv => whnf)
          | (refine And.intro rfl (And.intro (List.cons_ne_nil _ _) ?_); conv => whnf)
          | (refine And.intro (Nat.le_of_ble_eq_true rfl) ?_; conv => whnf)
          | (refine l2Beside_callL (by assumption) (by assumption) rfl rfl ?_; conv => whnf)
          | (refine callG_t ?_; conv => whnf)
          | (refine sTensorOk_call ?_; conv => whnf)
          | (refine And.intro (And.intro (Int.le_refl _) (And.intro (by kernel_rfl) (And.intro rfl (by kernel_rfl)))) (And.intro (And.intro (by omega) (And.intro (bytes_le (b := 24) rfl (by omega)) (by omega))) ?_); conv => whnf)
          | (refine And.intro (And.intro (Int.le_refl _) (And.intro (by kernel_rfl) (And.intro rfl (by kernel_rfl)))) (And.intro (And.intro (by omega) (And.intro (bytes_le (b := 48) rfl (by omega)) (by omega))) ?_); conv => whnf)
          | (refine And.intro rfl (And.intro rfl (And.intro (by rw [fillC_length (by omega)]; omega) ?_)); conv => whnf)
          | (refine And.intro rfl (And.intro rfl (And.intro (by rw [fillF_length (ndO_length _) rfl (by omega)]; omega) ?_)); conv => whnf)
          | (refine And.intro rfl (And.intro rfl (And.intro (by rw [fillF_length (tnO_length _) rfl (by omega)]; omega) ?_)); conv => whnf)
          | (refine set_fillC (by omega) (by omega) ?_; conv => whnf)
          | (refine set_fillF (ndO_length _) (by omega) rfl ?_; conv => whnf)
          | (refine set_fillF (tnO_length _) (by omega) rfl ?_; conv => whnf)
          | (refine And.intro (ond_fit (by omega) (Nat.le_of_ble_eq_true rfl)) ?_; conv => whnf)
          | (refine set_ond (by omega) (Nat.le_of_ble_eq_true rfl) ⟨_, rfl⟩ (fun _ _ _ _ => ?_); conv => whnf)
          | (refine get_oi_n (by omega) ?_; conv => whnf)
          | (refine get_ond_n (by omega) rfl ?_; conv => whnf)
          | (refine get_otn_n (by omega) rfl ?_; conv => whnf)
          | (refine l2BesideShape_call (by first | omega | assumption | (refine ⟨?_, ?_⟩ <;> first | assumption | omega) | (refine ⟨?_, ?_, ?_⟩ <;> first | assumption | omega)) ?_; conv => whnf)
          | (refine takeN_in ?_; conv => whnf)
          | (refine And.intro (pureL_ints _ _) ?_; conv => whnf)
          | (refine And.intro (pureL_take _ _ _) ?_; conv => whnf)
          | (refine And.intro (pureL_cut _ _ _ _) ?_; conv => whnf)
          | (refine cut_ints ?_; conv => whnf)
          | (refine cut_marks ?_; conv => whnf)
          | (refine cut_all rfl (scalL_ints _ _) ?_; conv => whnf)
          | (refine cut_all (by simp only [List.length_map]; omega) (scalL_ints _ _) ?_; conv => whnf)
          | (refine append_int rfl rfl (by first | rfl | (simp only [List.length_take, turned_length]; omega)) (by omega) (Nat.le_of_ble_eq_true rfl) ?_; conv => whnf)
          | (refine And.intro rfl (And.intro rfl (And.intro (by first | omega | (rw [List.length_map]; omega)) ?_)); conv => whnf)
          | (refine set_nat ?_ (by omega); conv => whnf)
          | (refine set_int ?_ (by omega); conv => whnf)
          | (refine set_bool ?_ (by omega); conv => whnf)
          | (refine set_force ?_; conv => whnf)
          | (refine get_bool0 (by omega) ?_; conv => whnf)
          | (refine And.intro (And.intro (Int.le_refl _) (And.intro (by kernel_rfl) (And.intro rfl (by kernel_rfl)))) (And.intro (And.intro (by omega) (And.intro (bytes_le (b := 1) rfl (by omega)) (by omega))) ?_); conv => whnf)
          | (refine And.intro (And.intro (by kernel_rfl) (And.intro rfl (Nat.le_of_ble_eq_true rfl))) ?_; conv => whnf)
          | (refine And.intro (And.intro (by kernel_rfl) (by kernel_rfl)) ?_; conv => whnf)
          | (refine And.intro (by kernel_rfl) ?_; conv => whnf)
          | (refine aIf_tt (by assumption) ?_; conv => whnf)
          | (refine aIf_ff (by assumption) ?_; conv => whnf)
          | refine aIf_eqt ?_
          | refine aIf_eqf ?_
          | refine aIf_not ?_
          | (refine aIf_bself ?_; conv => whnf)
          | (refine aIf_beself ?_; conv => whnf)
          | (refine aIf_iself ?_; conv => whnf)
          | (refine aIf_decself ?_; conv => whnf)
          | (refine aIf_dec (fun _ => ?_) (fun _ => ?_) <;> conv => whnf)
          | (refine aIf_beq (fun _ => ?_) (fun _ => ?_) <;> conv => whnf)
          | (refine aIf_bne (fun _ => ?_) (fun _ => ?_) <;> conv => whnf)
          | (refine aIf_bbne (fun _ => ?_) (fun _ => ?_) <;> conv => whnf)
          | (refine aIf_bbeq (fun _ => ?_) (fun _ => ?_) <;> conv => whnf)
          | (refine aIf_in (fun _ => ?_) (fun _ => ?_) <;> conv => whnf))
        all_goals (first | (exfalso; exact absurd (by assumption) hP) | skip)
        refine retTB (hM := bsM_f hC) ?_ ?_ ?_ ?_ ?_
        all_goals (first | exact rfl | decide | (simp; done))
    · have hC : ¬ bsP xs zs ps qs i := fun h => Bool.false_ne_true (hu.symm.trans h.2.1)
      conv => whnf
      repeat' (first
        | (refine aIf_t ?_; conv => whnf)
        | (refine aIf_f ?_; conv => whnf)
        | (refine fun (_ : _ ≤ maxLen) => ?_; conv => whnf)
        | (refine get_nat0 (by omega) ?_; conv => whnf)
        | (refine get_int0 (by omega) ?_; conv => whnf)
        | (refine get_nat (by omega) ?_; conv => whnf)
        | (refine get_int (by omega) ?_; conv => whnf)
        | (refine aGet_in rfl ?_; conv => whnf)
        | (refine And.intro (And.intro (Int.le_refl _) (And.intro (by kernel_rfl) (And.intro rfl (by kernel_rfl)))) (And.intro (And.intro (by omega) (And.intro (bytes_le (b := 8) rfl (by omega)) (by omega))) ?_); conv => whnf)
        | (refine And.intro (by omega) ?_; conv => whnf)
        | (refine load_same ?_; conv => whnf)
        | (refine And.intro (by rw [List.length_map]; omega) ?_; conv => whnf)
        | (refine And.intro rfl (And.intro (List.cons_ne_nil _ _) ?_); conv => whnf)
        | (refine And.intro (Nat.le_of_ble_eq_true rfl) ?_; conv => whnf)
        | (refine l2Beside_callL (by assumption) (by assumption) rfl rfl ?_; conv => whnf)
        | (refine callG_t ?_; conv => whnf)
        | (refine sTensorOk_call ?_; conv => whnf)
        | (refine And.intro (And.intro (Int.le_refl _) (And.intro (by kernel_rfl) (And.intro rfl (by kernel_rfl)))) (And.intro (And.intro (by omega) (And.intro (bytes_le (b := 24) rfl (by omega)) (by omega))) ?_); conv => whnf)
        | (refine And.intro (And.intro (Int.le_refl _) (And.intro (by kernel_rfl) (And.intro rfl (by kernel_rfl)))) (And.intro (And.intro (by omega) (And.intro (bytes_le (b := 48) rfl (by omega)) (by omega))) ?_); conv => whnf)
        | (refine And.intro rfl (And.intro rfl (And.intro (by rw [fillC_length (by omega)]; omega) ?_)); conv => whnf)
        | (refine And.intro rfl (And.intro rfl (And.intro (by rw [fillF_length (ndO_length _) rfl (by omega)]; omega) ?_)); conv => whnf)
        | (refine And.intro rfl (And.intro rfl (And.intro (by rw [fillF_length (tnO_length _) rfl (by omega)]; omega) ?_)); conv => whnf)
        | (refine set_fillC (by omega) (by omega) ?_; conv => whnf)
        | (refine set_fillF (ndO_length _) (by omega) rfl ?_; conv => whnf)
        | (refine set_fillF (tnO_length _) (by omega) rfl ?_; conv => whnf)
        | (refine And.intro (ond_fit (by omega) (Nat.le_of_ble_eq_true rfl)) ?_; conv => whnf)
        | (refine set_ond (by omega) (Nat.le_of_ble_eq_true rfl) ⟨_, rfl⟩ (fun _ _ _ _ => ?_); conv => whnf)
        | (refine get_oi_n (by omega) ?_; conv => whnf)
        | (refine get_ond_n (by omega) rfl ?_; conv => whnf)
        | (refine get_otn_n (by omega) rfl ?_; conv => whnf)
        | (refine l2BesideShape_call (by first | omega | assumption | (refine ⟨?_, ?_⟩ <;> first | assumption | omega) | (refine ⟨?_, ?_, ?_⟩ <;> first | assumption | omega)) ?_; conv => whnf)
        | (refine takeN_in ?_; conv => whnf)
        | (refine And.intro (pureL_ints _ _) ?_; conv => whnf)
        | (refine And.intro (pureL_take _ _ _) ?_; conv => whnf)
        | (refine And.intro (pureL_cut _ _ _ _) ?_; conv => whnf)
        | (refine cut_ints ?_; conv => whnf)
        | (refine cut_marks ?_; conv => whnf)
        | (refine cut_all rfl (scalL_ints _ _) ?_; conv => whnf)
        | (refine cut_all (by simp only [List.length_map]; omega) (scalL_ints _ _) ?_; conv => whnf)
        | (refine append_int rfl rfl (by first | rfl | (simp only [List.length_take, turned_length]; omega)) (by omega) (Nat.le_of_ble_eq_true rfl) ?_; conv => whnf)
        | (refine And.intro rfl (And.intro rfl (And.intro (by first | omega | (rw [List.length_map]; omega)) ?_)); conv => whnf)
        | (refine set_nat ?_ (by omega); conv => whnf)
        | (refine set_int ?_ (by omega); conv => whnf)
        | (refine set_bool ?_ (by omega); conv => whnf)
        | (refine set_force ?_; conv => whnf)
        | (refine get_bool0 (by omega) ?_; conv => whnf)
        | (refine And.intro (And.intro (Int.le_refl _) (And.intro (by kernel_rfl) (And.intro rfl (by kernel_rfl)))) (And.intro (And.intro (by omega) (And.intro (bytes_le (b := 1) rfl (by omega)) (by omega))) ?_); conv => whnf)
        | (refine And.intro (And.intro (by kernel_rfl) (And.intro rfl (Nat.le_of_ble_eq_true rfl))) ?_; conv => whnf)
        | (refine And.intro (And.intro (by kernel_rfl) (by kernel_rfl)) ?_; conv => whnf)
        | (refine And.intro (by kernel_rfl) ?_; conv => whnf)
        | (refine aIf_tt (by assumption) ?_; conv => whnf)
        | (refine aIf_ff (by assumption) ?_; conv => whnf)
        | refine aIf_eqt ?_
        | refine aIf_eqf ?_
        | refine aIf_not ?_
        | (refine aIf_bself ?_; conv => whnf)
        | (refine aIf_beself ?_; conv => whnf)
        | (refine aIf_iself ?_; conv => whnf)
        | (refine aIf_decself ?_; conv => whnf)
        | (refine aIf_dec (fun _ => ?_) (fun _ => ?_) <;> conv => whnf)
        | (refine aIf_beq (fun _ => ?_) (fun _ => ?_) <;> conv => whnf)
        | (refine aIf_bne (fun _ => ?_) (fun _ => ?_) <;> conv => whnf)
        | (refine aIf_bbne (fun _ => ?_) (fun _ => ?_) <;> conv => whnf)
        | (refine aIf_bbeq (fun _ => ?_) (fun _ => ?_) <;> conv => whnf)
        | (refine aIf_in (fun _ => ?_) (fun _ => ?_) <;> conv => whnf))
      refine retTB (hM := bsM_f hC) ?_ ?_ ?_ ?_ ?_
      all_goals (first | exact rfl | decide | (simp; done))
  · have hC : ¬ bsP xs zs ps qs i := fun h => Bool.false_ne_true (ht.symm.trans h.1)
    conv => whnf
    repeat' (first
      | (refine aIf_t ?_; conv => whnf)
      | (refine aIf_f ?_; conv => whnf)
      | (refine fun (_ : _ ≤ maxLen) => ?_; conv => whnf)
      | (refine get_nat0 (by omega) ?_; conv => whnf)
      | (refine get_int0 (by omega) ?_; conv => whnf)
      | (refine get_nat (by omega) ?_; conv => whnf)
      | (refine get_int (by omega) ?_; conv => whnf)
      | (refine aGet_in rfl ?_; conv => whnf)
      | (refine And.intro (And.intro (Int.le_refl _) (And.intro (by kernel_rfl) (And.intro rfl (by kernel_rfl)))) (And.intro (And.intro (by omega) (And.intro (bytes_le (b := 8) rfl (by omega)) (by omega))) ?_); conv => whnf)
      | (refine And.intro (by omega) ?_; conv => whnf)
      | (refine load_same ?_; conv => whnf)
      | (refine And.intro (by rw [List.length_map]; omega) ?_; conv => whnf)
      | (refine And.intro rfl (And.intro (List.cons_ne_nil _ _) ?_); conv => whnf)
      | (refine And.intro (Nat.le_of_ble_eq_true rfl) ?_; conv => whnf)
      | (refine l2Beside_callL (by assumption) (by assumption) rfl rfl ?_; conv => whnf)
      | (refine callG_t ?_; conv => whnf)
      | (refine sTensorOk_call ?_; conv => whnf)
      | (refine And.intro (And.intro (Int.le_refl _) (And.intro (by kernel_rfl) (And.intro rfl (by kernel_rfl)))) (And.intro (And.intro (by omega) (And.intro (bytes_le (b := 24) rfl (by omega)) (by omega))) ?_); conv => whnf)
      | (refine And.intro (And.intro (Int.le_refl _) (And.intro (by kernel_rfl) (And.intro rfl (by kernel_rfl)))) (And.intro (And.intro (by omega) (And.intro (bytes_le (b := 48) rfl (by omega)) (by omega))) ?_); conv => whnf)
      | (refine And.intro rfl (And.intro rfl (And.intro (by rw [fillC_length (by omega)]; omega) ?_)); conv => whnf)
      | (refine And.intro rfl (And.intro rfl (And.intro (by rw [fillF_length (ndO_length _) rfl (by omega)]; omega) ?_)); conv => whnf)
      | (refine And.intro rfl (And.intro rfl (And.intro (by rw [fillF_length (tnO_length _) rfl (by omega)]; omega) ?_)); conv => whnf)
      | (refine set_fillC (by omega) (by omega) ?_; conv => whnf)
      | (refine set_fillF (ndO_length _) (by omega) rfl ?_; conv => whnf)
      | (refine set_fillF (tnO_length _) (by omega) rfl ?_; conv => whnf)
      | (refine And.intro (ond_fit (by omega) (Nat.le_of_ble_eq_true rfl)) ?_; conv => whnf)
      | (refine set_ond (by omega) (Nat.le_of_ble_eq_true rfl) ⟨_, rfl⟩ (fun _ _ _ _ => ?_); conv => whnf)
      | (refine get_oi_n (by omega) ?_; conv => whnf)
      | (refine get_ond_n (by omega) rfl ?_; conv => whnf)
      | (refine get_otn_n (by omega) rfl ?_; conv => whnf)
      | (refine l2BesideShape_call (by first | omega | assumption | (refine ⟨?_, ?_⟩ <;> first | assumption | omega) | (refine ⟨?_, ?_, ?_⟩ <;> first | assumption | omega)) ?_; conv => whnf)
      | (refine takeN_in ?_; conv => whnf)
      | (refine And.intro (pureL_ints _ _) ?_; conv => whnf)
      | (refine And.intro (pureL_take _ _ _) ?_; conv => whnf)
      | (refine And.intro (pureL_cut _ _ _ _) ?_; conv => whnf)
      | (refine cut_ints ?_; conv => whnf)
      | (refine cut_marks ?_; conv => whnf)
      | (refine cut_all rfl (scalL_ints _ _) ?_; conv => whnf)
      | (refine cut_all (by simp only [List.length_map]; omega) (scalL_ints _ _) ?_; conv => whnf)
      | (refine append_int rfl rfl (by first | rfl | (simp only [List.length_take, turned_length]; omega)) (by omega) (Nat.le_of_ble_eq_true rfl) ?_; conv => whnf)
      | (refine And.intro rfl (And.intro rfl (And.intro (by first | omega | (rw [List.length_map]; omega)) ?_)); conv => whnf)
      | (refine set_nat ?_ (by omega); conv => whnf)
      | (refine set_int ?_ (by omega); conv => whnf)
      | (refine set_bool ?_ (by omega); conv => whnf)
      | (refine set_force ?_; conv => whnf)
      | (refine get_bool0 (by omega) ?_; conv => whnf)
      | (refine And.intro (And.intro (Int.le_refl _) (And.intro (by kernel_rfl) (And.intro rfl (by kernel_rfl)))) (And.intro (And.intro (by omega) (And.intro (bytes_le (b := 1) rfl (by omega)) (by omega))) ?_); conv => whnf)
      | (refine And.intro (And.intro (by kernel_rfl) (And.intro rfl (Nat.le_of_ble_eq_true rfl))) ?_; conv => whnf)
      | (refine And.intro (And.intro (by kernel_rfl) (by kernel_rfl)) ?_; conv => whnf)
      | (refine And.intro (by kernel_rfl) ?_; conv => whnf)
      | (refine aIf_tt (by assumption) ?_; conv => whnf)
      | (refine aIf_ff (by assumption) ?_; conv => whnf)
      | refine aIf_eqt ?_
      | refine aIf_eqf ?_
      | refine aIf_not ?_
      | (refine aIf_bself ?_; conv => whnf)
      | (refine aIf_beself ?_; conv => whnf)
      | (refine aIf_iself ?_; conv => whnf)
      | (refine aIf_decself ?_; conv => whnf)
      | (refine aIf_dec (fun _ => ?_) (fun _ => ?_) <;> conv => whnf)
      | (refine aIf_beq (fun _ => ?_) (fun _ => ?_) <;> conv => whnf)
      | (refine aIf_bne (fun _ => ?_) (fun _ => ?_) <;> conv => whnf)
      | (refine aIf_bbne (fun _ => ?_) (fun _ => ?_) <;> conv => whnf)
      | (refine aIf_bbeq (fun _ => ?_) (fun _ => ?_) <;> conv => whnf)
      | (refine aIf_in (fun _ => ?_) (fun _ => ?_) <;> conv => whnf))
    refine retTB (hM := bsM_f hC) ?_ ?_ ?_ ?_ ?_
    all_goals (first | exact rfl | decide | (simp; done))
theorem sBesideOf_call {c d e f : Nat} {xs zs ps qs : List Int} {i : Int} {env : List AV} {rows : List Row} {ctr low : Nat} {k : AV → St → Prop} (hpre : True)
    (hk : k (.tup [.agg [.ref rows.length ctr 0 (bsM xs zs ps qs i).1.length, .ref (rows.length + 1) ctr 0 (bsM xs zs ps qs i).2.1.length], .bool (bsM xs zs ps qs i).2.2]) ⟨env, rows ++ [⟨ctr, 3, 1, (bsM xs zs ps qs i).1.map (.int .i64)⟩, ⟨ctr, 3, 1, (bsM xs zs ps qs i).2.1.map (.int .i64)⟩], ctr + 1, low⟩) :
    CallB Try.prog 17 ⟨env, rows, ctr, low⟩ [.agg [.sl c xs.length (xs.map (.int .i64)), .sl d zs.length (zs.map (.int .i64))], .agg [.sl e ps.length (ps.map (.int .i64)), .sl f qs.length (qs.map (.int .i64))], .int .i64 i] k := callTB_in sBesideOf_sound (c, xs, d, zs, e, ps, f, qs, i) hpre hk
end Go.Proofs.Ytegoncendpboiaa
