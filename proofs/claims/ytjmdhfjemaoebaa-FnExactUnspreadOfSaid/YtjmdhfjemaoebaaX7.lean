import Derived.Test.YtjmdhfjemaoebaaM1x1
/- Chapter 7: UnspreadOf of the model. -/
namespace Go.Proofs.Ytjmdhfjemaoebaa
set_option maxRecDepth 20000
open Go.RowKit Go.Am
set_option linter.unusedSimpArgs false
attribute [local irreducible] aPlan aGet aIf aLoop aCall RetB NextB CallB CallG aCut aSet aAppend
set_option maxHeartbeats 4000000 in
theorem l7Zero_sound : Sound Try.prog 105 (fnT (ι := Nat × List Int) 3 (fun | (c, xs) => [.sl c xs.length (xs.map (.int .i64))]) (fun | (_, xs) => shapeOk xs = true) (fun | (_, xs) => xs) (fun | (_, xs) => zsOf xs)) := by
  refine sound_of Try.func105 rfl (enters_of Try.func105 (by kernel_rfl) (by kernel_rfl)) ?_
  rintro ⟨c, xs⟩ hpre
  have hs : shapeOk xs = true := hpre
  have h3 := ((shapeOk_iff _).1 hs).1
  have hc := cnt64 hs (Nat.le_refl _)
  have he : countOf xs = cntTo xs xs.length := if_pos hs
  conv => whnf
  repeat' (first
    | (refine And.intro (And.intro (Int.le_refl _) (And.intro (by kernel_rfl) (And.intro rfl (by kernel_rfl)))) (And.intro (And.intro (by omega) (And.intro (bytes_le (b := 8) rfl (by omega)) (by omega))) ?_); conv => whnf)
    | (refine And.intro (Nat.le_of_ble_eq_true rfl) ?_; conv => whnf)
    | (refine callG_t ?_; conv => whnf)
    | (refine l2Nums_call (by omega) ?_; conv => whnf)
    | (refine append_same ?_; conv => whnf)
    | (refine takeN_in ?_; conv => whnf)
    | (refine And.intro (pureL_ints _ _) ?_; conv => whnf)
    | (refine l1Count_call ?_; conv => whnf)
    | (refine set_force ?_; conv => whnf)
    | (refine And.intro (by kernel_rfl) ?_; conv => whnf))
  all_goals (first | (exfalso; omega) | skip)
  all_goals exact retTc (by decide) rfl rfl (rep_ints _ _) rfl (by simp [zsOf, he]) rfl (by simp [zsOf, he])
theorem l7Zero_call {c : Nat} {xs : List Int} {env : List AV} {rows : List Row} {ctr low : Nat} {k : AV → St → Prop} (hpre : shapeOk xs = true)
    (hk : k (.agg [.ref rows.length ctr 0 xs.length, .ref (rows.length + 1) ctr 0 (zsOf xs).length]) ⟨env, rows ++ [⟨ctr, 3, 1, xs.map (.int .i64)⟩, ⟨ctr, 3, 1, (zsOf xs).map (.int .i64)⟩], ctr + 1, low⟩) :
    CallB Try.prog 105 ⟨env, rows, ctr, low⟩ [.sl c xs.length (xs.map (.int .i64))] k := callT_in l7Zero_sound (c, xs) hpre hk
theorem zs_rep {xs : List Int} (hs : shapeOk xs = true) : zsOf xs = List.replicate (cntTo xs xs.length).toNat 0 := by
  have he : countOf xs = cntTo xs xs.length := if_pos hs
  unfold zsOf; rw [he]
set_option maxHeartbeats 4000000 in
theorem l7Unspread_sound : Sound Try.prog 67 (fnT (ι := Nat × List Int × Nat × List Int × Nat × List Int) 3 (fun | (c, ys, d, zs, e, xs) => [.agg [.sl c ys.length (ys.map (.int .i64)), .sl d zs.length (zs.map (.int .i64))], .sl e xs.length (xs.map (.int .i64))]) (fun | (_, ys, _, zs, _, xs) => UsP zs xs ys) (fun | (_, _, _, _, _, xs) => xs) (fun | (_, ys, _, zs, _, xs) => unL zs xs ys)) := by
  refine sound_of Try.func67 rfl (enters_of Try.func67 (by kernel_rfl) (by kernel_rfl)) ?_
  rintro ⟨c, ys, d, zs, e, xs⟩ hpre
  obtain ⟨hl, j1, j2⟩ : UsP zs xs ys := hpre
  have hmax : maxLen = 9223372036854775807 := rfl
  have hs := spI_shape j1 j2
  obtain ⟨b1, b2⟩ := sp_facts j1 j2
  have h3 := ((shapeOk_iff _).1 b1).1
  have h4 := ((shapeOk_iff _).1 hs).1
  have hc := cnt64 b1 (Nat.le_refl _)
  have hc2 := cnt64 hs (Nat.le_refl _)
  have hz := zsOf_length hs
  conv => whnf
  repeat' (first
    | (refine plan_in (id := 6) [0, 1, 2, 3, 4, 5, 6, 7, 8, 9, 10, 11, 12, 13, 14, 15] (by kernel_rfl) (by kernel_rfl) ?_; conv => whnf)
    | (refine And.intro rfl (And.intro (List.cons_ne_nil _ _) ?_); conv => whnf)
    | (refine And.intro (Nat.le_of_ble_eq_true rfl) ?_; conv => whnf)
    | (refine callG_t ?_; conv => whnf)
    | (refine append_same ?_; conv => whnf)
    | (refine l7Zero_call (by assumption) ?_; conv => whnf)
    | (refine And.intro (pureL_ints _ _) ?_; conv => whnf)
    | (refine set_force ?_; conv => whnf)
    | (refine And.intro (by kernel_rfl) ?_; conv => whnf))
  all_goals (first | (exfalso; omega) | skip)
  refine loop_u (ι := Nat) [false, true, true, false, true, true, true, false, false, false, false, false, false, false, false, false, false, false, false, false, false, false, false, false, false, false, false, false, false, false, false, false, false, false, false, false, false, false] (fun k => [(6, .int .i64 k)]) (fun k => [(5, (suT zs (spI xs ys) (cntTo xs xs.length).toNat k).map (.int .i64))]) (fun k => k ≤ zs.length) (fun k => zs.length - k) (0) (Nat.zero_le _) ?_ ?_
  · conv => whnf
    repeat' (first
      | exact trivial
      | exact rfl
      | exact pureL_ints _ _
      | exact Or.inl (And.intro rfl rfl)
      | exact le_ints rfl
      | exact Or.inl (And.intro (pureL_pair _ _ _ _ _ _) rfl)
      | refine le_ints ?_
      | refine Or.inr ?_
      | refine And.intro ?_ ?_
      | exact Nat.le_of_ble_eq_true rfl)
    all_goals exact congrArg _ (zs_rep hs)
  · intro k hk
    have hk : k ≤ zs.length := hk
    have hsl := suT_length zs (spI xs ys) (cntTo xs xs.length).toNat k
    by_cases hlt : k < zs.length
    · have hlt' : (k : Int) < cntTo ys ys.length := by omega
      obtain ⟨c1, c2, c3⟩ := spI_getD j1 j2 (k := k) (by omega)
      have hn : suT zs (spI xs ys) (cntTo xs xs.length).toNat (k + 1) = (suT zs (spI xs ys) (cntTo xs xs.length).toNat k).set (idxTo xs (px xs ys k) xs.length).toNat (IntKind.i64.wrap ((suT zs (spI xs ys) (cntTo xs xs.length).toNat k).getD (idxTo xs (px xs ys k) xs.length).toNat 0 + zs.getD k 0)) := by
        show addAt _ ((spI xs ys).getD k 0) _ = _
        rw [c1]; rfl
      conv => whnf
      repeat' (first
        | (refine plan_in (id := 6) [0, 1, 2, 3, 4, 5, 6, 7, 8, 9, 10, 11, 12, 13, 14, 15] (by kernel_rfl) (by kernel_rfl) ?_; conv => whnf)
        | (refine fun (_ : _ ≤ maxLen) => ?_; conv => whnf)
        | (refine get_int0 (by omega) ?_; conv => whnf)
        | (refine get_nat (by omega) ?_; conv => whnf)
        | (refine aGet_in rfl ?_; conv => whnf)
        | (refine And.intro (by omega) ?_; conv => whnf)
        | (refine load_same ?_; conv => whnf)
        | (refine callG_t ?_; conv => whnf)
        | (refine append_same ?_; conv => whnf)
        | (refine takeN_in ?_; conv => whnf)
        | (refine And.intro (pureL_ints _ _) ?_; conv => whnf)
        | (refine l1Spread_call (And.intro (by assumption) (by assumption)) ?_; conv => whnf)
        | (refine And.intro rfl (And.intro rfl (And.intro (by first | omega | (rw [List.length_map]; omega)) ?_)); conv => whnf)
        | (refine set_int ?_ (by omega); conv => whnf)
        | (refine set_force ?_; conv => whnf)
        | (refine aIf_dec (fun _ => ?_) (fun _ => ?_) <;> conv => whnf))
      all_goals (first | (exfalso; omega) | skip)
      refine next_u (k + 1) (show zs.length - (k + 1) < zs.length - k by omega) (by exact (by omega : k + 1 ≤ zs.length)) ?_
      conv => whnf
      repeat' (first
        | exact trivial
        | exact rfl
        | exact pureL_ints _ _
        | exact Or.inl (And.intro rfl rfl)
        | exact le_ints rfl
        | exact Or.inl (And.intro (pureL_pair _ _ _ _ _ _) rfl)
        | refine le_ints ?_
        | refine Or.inr ?_
        | refine And.intro ?_ ?_
        | exact Nat.le_of_ble_eq_true rfl
        | exact int_eq (by rw [IntWalk.i64_in _ (by omega)] <;> omega))
      all_goals (first | exact congrArg (List.map (AV.int .i64)) hn.symm | exact congrArg (List.map (AV.int .i64)) hn)
    · have he : k = zs.length := by omega
      subst he
      conv => whnf
      repeat' (first
        | (refine plan_in (id := 6) [0, 1, 2, 3, 4, 5, 6, 7, 8, 9, 10, 11, 12, 13, 14, 15] (by kernel_rfl) (by kernel_rfl) ?_; conv => whnf)
        | (refine fun (_ : _ ≤ maxLen) => ?_; conv => whnf)
        | (refine get_nat0 (by omega) ?_; conv => whnf)
        | (refine get_nat (by omega) ?_; conv => whnf)
        | (refine aGet_in rfl ?_; conv => whnf)
        | (refine And.intro (by omega) ?_; conv => whnf)
        | (refine load_same ?_; conv => whnf)
        | (refine And.intro (Nat.le_of_ble_eq_true rfl) ?_; conv => whnf)
        | (refine callG_t ?_; conv => whnf)
        | (refine append_same ?_; conv => whnf)
        | (refine takeN_in ?_; conv => whnf)
        | (refine l1Spread_call (And.intro (by assumption) (by assumption)) ?_; conv => whnf)
        | (refine set_nat ?_ (by omega); conv => whnf)
        | (refine set_force ?_; conv => whnf)
        | (refine And.intro (by kernel_rfl) ?_; conv => whnf)
        | (refine aIf_dec (fun _ => ?_) (fun _ => ?_) <;> conv => whnf))
      all_goals (first | (exfalso; omega) | skip)
      exact retTc (by decide) rfl rfl rfl rfl (by rw [hsl, hz]) rfl (by show suT zs (spI xs ys) (cntTo xs xs.length).toNat zs.length = suT zs (spI xs ys) (cntTo xs xs.length).toNat (spI xs ys).length; rw [spI_length, show zs.length = (cntTo ys ys.length).toNat by omega])
theorem l7Unspread_call {c d e : Nat} {zs xs ys : List Int} {env : List AV} {rows : List Row} {ctr low : Nat} {k : AV → St → Prop} (hpre : UsP zs xs ys)
    (hk : k (.agg [.ref rows.length ctr 0 xs.length, .ref (rows.length + 1) ctr 0 (unL zs xs ys).length]) ⟨env, rows ++ [⟨ctr, 3, 1, xs.map (.int .i64)⟩, ⟨ctr, 3, 1, (unL zs xs ys).map (.int .i64)⟩], ctr + 1, low⟩) :
    CallB Try.prog 67 ⟨env, rows, ctr, low⟩ [.agg [.sl c ys.length (ys.map (.int .i64)), .sl d zs.length (zs.map (.int .i64))], .sl e xs.length (xs.map (.int .i64))] k := callT_in l7Unspread_sound (c, ys, d, zs, e, xs) hpre hk
set_option maxHeartbeats 4000000 in
theorem sUnspreadOf_sound : Sound Try.prog 21 sUnspread := by
  refine sound_of Try.func21 rfl (enters_of Try.func21 (by kernel_rfl) (by kernel_rfl)) ?_
  rintro ⟨c, xs, d, zs, e, ys⟩ hpre
  have hpre : ys.length ≤ 1048576 := hpre
  by_cases hC : unC xs zs ys
  · obtain ⟨hU, hs, h3, hl⟩ := unC_facts hC
    have hM := unM_t hC
    obtain ⟨hT, hz⟩ := hC
    have hx := tensor_len hT
    conv => whnf
    repeat' (first
      | (refine aIf_t ?_; conv => whnf)
      | (refine aIf_f ?_; conv => whnf)
      | (refine aGet_in rfl ?_; conv => whnf)
      | (refine And.intro (by omega) ?_; conv => whnf)
      | (refine load_same ?_; conv => whnf)
      | (refine And.intro rfl (And.intro (List.cons_ne_nil _ _) ?_); conv => whnf)
      | (refine And.intro (Nat.le_of_ble_eq_true rfl) ?_; conv => whnf)
      | (refine l2Told_call _ _ rfl rfl (by decide) (by first | rfl | omega) (by first | rfl | omega) (fun _ => ?_) (fun _ => ?_) <;> conv => whnf)
      | (refine callG_t ?_; conv => whnf)
      | (refine sTensorOk_call ?_; conv => whnf)
      | (refine append_same ?_; conv => whnf)
      | (refine l7Unspread_call (by assumption) ?_; conv => whnf)
      | (refine takeN_in ?_; conv => whnf)
      | (refine And.intro (pureL_ints _ _) ?_; conv => whnf)
      | (refine sSpreadIndex_call (by omega) ?_; conv => whnf)
      | (refine set_force ?_; conv => whnf)
      | (refine And.intro (by kernel_rfl) ?_; conv => whnf)
      | (refine aIf_tt (by assumption) ?_; conv => whnf)
      | refine aIf_eqf ?_
      | refine aIf_not ?_
      | (refine aIf_dec (fun _ => ?_) (fun _ => ?_) <;> conv => whnf))
    all_goals (first | (exfalso; omega) | skip)
    all_goals (first | (refine retTB (hM := hM.trans (told_t (by assumption))) ?_ ?_ ?_ ?_ ?_ <;> first | exact rfl | decide | (simp; done)) | (refine retTB (hM := hM.trans (told_f (by assumption))) ?_ ?_ ?_ ?_ ?_ <;> first | exact rfl | decide | (simp; done)))
  · have hM := unM_f hC
    cases hT : tensorOk xs zs with
    | false =>
      conv => whnf
      repeat' (first
        | (refine aIf_t ?_; conv => whnf)
        | (refine aIf_f ?_; conv => whnf)
        | (refine load_same ?_; conv => whnf)
        | (refine And.intro rfl (And.intro (List.cons_ne_nil _ _) ?_); conv => whnf)
        | (refine And.intro (Nat.le_of_ble_eq_true rfl) ?_; conv => whnf)
        | (refine callG_t ?_; conv => whnf)
        | (refine sTensorOk_call ?_; conv => whnf)
        | (refine append_same ?_; conv => whnf)
        | (refine takeN_in ?_; conv => whnf)
        | (refine And.intro (pureL_ints _ _) ?_; conv => whnf)
        | (refine set_force ?_; conv => whnf)
        | (refine And.intro (by kernel_rfl) ?_; conv => whnf)
        | (refine aIf_ff (by assumption) ?_; conv => whnf)
        | refine aIf_eqf ?_
        | refine aIf_not ?_)
      all_goals (first | (exfalso; omega) | skip)
      all_goals (refine retTB (hM := hM) ?_ ?_ ?_ ?_ ?_ <;> first | exact rfl | decide | (simp; done))
    | true =>
      have hz : spread ys xs 0 < 0 := by
        refine Classical.byContradiction fun h => hC ⟨hT, h⟩
      have hx := tensor_len hT
      conv => whnf
      repeat' (first
        | (refine aIf_t ?_; conv => whnf)
        | (refine aIf_f ?_; conv => whnf)
        | (refine aGet_in rfl ?_; conv => whnf)
        | (refine And.intro (by omega) ?_; conv => whnf)
        | (refine load_same ?_; conv => whnf)
        | (refine And.intro rfl (And.intro (List.cons_ne_nil _ _) ?_); conv => whnf)
        | (refine And.intro (Nat.le_of_ble_eq_true rfl) ?_; conv => whnf)
        | (refine callG_t ?_; conv => whnf)
        | (refine sTensorOk_call ?_; conv => whnf)
        | (refine append_same ?_; conv => whnf)
        | (refine takeN_in ?_; conv => whnf)
        | (refine And.intro (pureL_ints _ _) ?_; conv => whnf)
        | (refine sSpreadIndex_call (by omega) ?_; conv => whnf)
        | (refine set_force ?_; conv => whnf)
        | (refine And.intro (by kernel_rfl) ?_; conv => whnf)
        | (refine aIf_tt (by assumption) ?_; conv => whnf)
        | refine aIf_eqf ?_
        | refine aIf_not ?_
        | (refine aIf_dec (fun _ => ?_) (fun _ => ?_) <;> conv => whnf))
      all_goals (first | (exfalso; omega) | skip)
      all_goals (refine retTB (hM := hM) ?_ ?_ ?_ ?_ ?_ <;> first | exact rfl | decide | (simp; done))
theorem sUnspreadOf_call {c d e : Nat} {xs zs ys : List Int} {env : List AV} {rows : List Row} {ctr low : Nat} {k : AV → St → Prop} (hpre : ys.length ≤ 1048576)
    (hk : k (.tup [.agg [.ref rows.length ctr 0 (unM xs zs ys).1.length, .ref (rows.length + 1) ctr 0 (unM xs zs ys).2.1.length], .bool (unM xs zs ys).2.2]) ⟨env, rows ++ [⟨ctr, 3, 1, (unM xs zs ys).1.map (.int .i64)⟩, ⟨ctr, 3, 1, (unM xs zs ys).2.1.map (.int .i64)⟩], ctr + 1, low⟩) :
    CallB Try.prog 21 ⟨env, rows, ctr, low⟩ [.agg [.sl c xs.length (xs.map (.int .i64)), .sl d zs.length (zs.map (.int .i64))], .sl e ys.length (ys.map (.int .i64))] k := callTB_in sUnspreadOf_sound (c, xs, d, zs, e, ys) hpre hk
end Go.Proofs.Ytjmdhfjemaoebaa
