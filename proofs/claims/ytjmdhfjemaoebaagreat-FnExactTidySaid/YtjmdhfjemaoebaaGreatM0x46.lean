import Derived.Test.YtjmdhfjemaoebaaGreatM0x45
namespace Go.Proofs.YtjmdhfjemaoebaaGreat
set_option maxRecDepth 20000
open Go.RowKit Go.Am
set_option linter.unusedSimpArgs false
attribute [local irreducible] aPlan aGet aIf aLoop aCall RetB NextB CallB CallG aCut aSet aAppend
set_option maxHeartbeats 16000000 in
theorem iTidy_sound : Sound Tryz.prog 11 sTidy := by
  refine sound_of Tryz.func11 rfl (enters_of Tryz.func11 (by kernel_rfl) (by kernel_rfl)) ?_
  rintro ⟨c, xss, ns⟩ hpre
  have hE : eP ns := hpre
  have hmax : maxLen = 9223372036854775807 := rfl
  cases hM : (shM xss ns).2 with
  | false =>
    have hT : tdE xss ns = ([], []) := if_neg (by rw [hM]; decide)
    conv => whnf
    repeat' (first
      | ((first | refine plan_in (id := 6) [0, 1, 2, 3, 4, 5, 6, 7, 8, 9, 10, 11, 12, 13, 14, 15] (by kernel_rfl) (by kernel_rfl) ?_ | refine load_same ?_ | refine And.intro rfl (And.intro (List.cons_ne_nil _ _) ?_) | refine And.intro (Nat.le_of_ble_eq_true rfl) ?_ | refine callG_t ?_ | refine append_same ?_ | refine And.intro (pureL_ii _ _) ?_ | refine And.intro (pureL_nd _ _) ?_); conv => whnf) | (refine iExprOk_call (by first | omega | assumption | (refine ⟨?_, ?_⟩ <;> first | assumption | omega) | (refine ⟨?_, ?_, ?_⟩ <;> first | assumption | omega)) ?_; conv => whnf) | ((first | refine takeN_in ?_ | refine set_force ?_ | refine And.intro (by kernel_rfl) ?_ | refine aIf_ff (by assumption) ?_); conv => whnf) | refine aIf_not ?_)
    all_goals (first | (exfalso; omega) | contradiction | skip)
    exact retEB hT hM.symm (by decide) rfl rfl rfl rfl rfl rfl
  | true =>
    have hX := exI_of hM
    have hcp := hX.cpP
    have hT : tdE xss ns = (xss, tdV xss ns) := if_pos hM
    conv => whnf
    repeat' (first
      | ((first | refine plan_in (id := 6) [0, 1, 2, 3, 4, 5, 6, 7, 8, 9, 10, 11, 12, 13, 14, 15] (by kernel_rfl) (by kernel_rfl) ?_ | refine load_same ?_ | refine And.intro rfl (And.intro (List.cons_ne_nil _ _) ?_) | refine And.intro (Nat.le_of_ble_eq_true rfl) ?_ | refine callG_t ?_ | refine append_same ?_ | refine And.intro (pureL_ii _ _) ?_ | refine And.intro (pureL_nd _ _) ?_ | refine cut_ii rfl ?_ | refine cut_nd rfl ?_); conv => whnf) | (refine iExprOk_call (by first | omega | assumption | (refine ⟨?_, ?_⟩ <;> first | assumption | omega) | (refine ⟨?_, ?_, ?_⟩ <;> first | assumption | omega)) ?_; conv => whnf) | ((first | refine copyExpr_call (by assumption) ?_ | refine iChangesOf_call (by assumption) ?_ | refine takeN_in ?_ | refine set_force ?_ | refine And.intro (by kernel_rfl) ?_ | refine aIf_tt (by assumption) ?_); conv => whnf) | refine aIf_not ?_)
    all_goals (first | (exfalso; omega) | contradiction | skip)
    refine loop_ut (ι := List Nd) [false, false, true, false, true, true, false, false, false, false, false, false, false, false, false, false, false, false, false, false, false, false, false, false, false, false, false, false, false, false, false, false, false, false, false] (fun L => [(5, .ref 9 10 0 (chL xss L).length)]) (fun L => [(8, [.ref 4 6 0 xss.length, .ref 5 6 0 L.length]), (5, L.flatMap (ndO 3)), (9, (chL xss L).map (ownI 3))]) (fun L => eP L ∧ tdV xss L = tdV xss ns) (fun L => mu L) (ns) ⟨hE, rfl⟩ ?_ ?_
    · conv => whnf
      refine St.le.to ?_
      conv => whnf
      repeat' (first
        | exact trivial | exact rfl
        | exact Or.inl (And.intro rfl rfl) | exact pureL_ii _ _
        | exact pureL_nd _ _ | exact Or.inl (And.intro (pureL_oi _ _) rfl)
        | exact Or.inl (And.intro (pureL_ond _ _) rfl) | refine Or.inr ?_
        | refine And.intro ?_ ?_ | exact Nat.le_of_ble_eq_true rfl)
    · rintro L ⟨hL, hV⟩
      have hL : eP L := hL
      have hV : tdV xss L = tdV xss ns := hV
      rcases (show chL xss L = [] ∨ ∃ x r, chL xss L = x :: r by cases chL xss L with | nil => exact .inl rfl | cons x r => exact .inr ⟨x, r, rfl⟩) with hc | ⟨x, r, hc⟩
      · skip
        have hl0 : (chL xss L).length = 0 := by rw [hc]; rfl
        have hTL : tdE xss ns = (xss, L) := by rw [hT, ← hV, tdV_e hc]
        conv => whnf
        repeat' (first
          | ((first | refine plan_in (id := 6) [0, 1, 2, 3, 4, 5, 6, 7, 8, 9, 10, 11, 12, 13, 14, 15] (by kernel_rfl) (by kernel_rfl) ?_ | refine fun (_ : _ ≤ maxLen) => ?_ | refine And.intro (by omega) ?_ | refine load_same ?_ | refine And.intro (Nat.le_of_ble_eq_true rfl) ?_ | refine append_same ?_ | refine takeN_in ?_ | refine set_force ?_ | refine And.intro (by kernel_rfl) ?_); conv => whnf) | (refine aIf_dec (fun _ => ?_) (fun _ => ?_) <;> conv => whnf))
        all_goals (first | (exfalso; omega) | contradiction | skip)
        exact retEB hTL hM.symm (by decide) rfl rfl rfl rfl rfl rfl
      · skip
        obtain ⟨hx2, L', hO, hmu, hE'⟩ := step_of hc hL
        obtain ⟨hg, hl0⟩ := chL_get hc
        have hV' : tdV xss L' = tdV xss ns := (tdV_s hc hO hmu hE').symm.trans hV
        have t0 : Int.toNat 0 = 0 := rfl
        have t1 : Int.toNat 1 = 1 := rfl
        conv => whnf
        repeat' (first
          | ((first | refine get_oi0 hg hl0 ?_ | refine get_oss rfl (by rw [List.length_map]; omega) ?_ | refine iChangeDo_callL hL hO ?_ | refine plan_in (id := 6) [0, 1, 2, 3, 4, 5, 6, 7, 8, 9, 10, 11, 12, 13, 14, 15] (by kernel_rfl) (by kernel_rfl) ?_ | refine fun (_ : _ ≤ maxLen) => ?_ | refine get_nat (by omega) ?_ | refine aGet_in rfl ?_ | refine And.intro (by omega) ?_ | refine load_same ?_ | refine And.intro (Nat.le_of_ble_eq_true rfl) ?_ | refine callG_t ?_ | refine append_same ?_ | refine cut_ii rfl ?_ | refine cut_nd rfl ?_ | refine iChangesOf_call (by assumption) ?_ | refine takeN_in ?_ | refine set_force ?_ | refine And.intro (by kernel_rfl) ?_); conv => whnf) | (refine aIf_dec (fun _ => ?_) (fun _ => ?_) <;> conv => whnf))
        all_goals (first | (exfalso; omega) | contradiction | skip)
        refine next_ut L' hmu ⟨hE', hV'⟩ ?_
        conv => whnf
        refine to_force [false, false, false, false, false, false, false, false, true] ?_
        conv => whnf
        refine to_swap 4 11 [false, false, false, false, false, false, false, false, true] _ _ rfl rfl (by decide) (Nat.zero_le _) (Nat.zero_le _) ?_
        refine to_force [false, false, false, false, false, false, false, false, true] ?_
        conv => whnf
        refine to_swap 5 12 [false, false, false, false, false, false, false, false, true] _ _ rfl rfl (by decide) (Nat.zero_le _) (Nat.zero_le _) ?_
        refine to_force [false, false, false, false, false, false, false, false, true] ?_
        conv => whnf
        refine to_swap 9 13 [false, false, false, false, false, false, false, false, true] _ _ rfl rfl (by decide) (Nat.zero_le _) (Nat.zero_le _) ?_
        refine to_force [false, false, false, false, false, false, false, false, true] ?_
        conv => whnf
        refine St.le.to ?_
        conv => whnf
        repeat' (first
          | exact trivial | exact rfl
          | exact Or.inl (And.intro rfl rfl) | exact pureL_ii _ _
          | exact pureL_nd _ _ | exact Or.inl (And.intro (pureL_oi _ _) rfl)
          | exact Or.inl (And.intro (pureL_ond _ _) rfl) | refine Or.inr ?_
          | refine And.intro ?_ ?_ | exact Nat.le_of_ble_eq_true rfl)
theorem iTidy_call {c : Nat} {xss : List (List Int)} {ns : List Nd} {env : List AV} {rows : List Row} {ctr low : Nat} {k : AV → St → Prop} (hE : eP ns)
    (h : k (.tup [.agg [.ref rows.length ctr 0 (tdE xss ns).1.length, .ref (rows.length + 1) ctr 0 (tdE xss ns).2.length], .bool (shM xss ns).2]) ⟨env, rows ++ [⟨ctr, 38, 1, (tdE xss ns).1.map (ownI 3)⟩, ⟨ctr, 75, 4, (tdE xss ns).2.flatMap (ndO 3)⟩], ctr + 1, low⟩) :
    CallB Tryz.prog 11 ⟨env, rows, ctr, low⟩ [.agg [.sl c xss.length (xss.map (slI c)), .sl c ns.length (ns.flatMap (ndC c))]] k := callEB_in iTidy_sound (c, xss, ns) hE h
end Go.Proofs.YtjmdhfjemaoebaaGreat
namespace Go.Proofs.YtjmdhfjemaoebaaGreat
set_option maxRecDepth 20000
open Go.RowKit Go.Am
set_option linter.unusedSimpArgs false
attribute [local irreducible] aPlan aGet aIf aLoop aCall RetB NextB CallB CallG aCut aSet aAppend
set_option maxHeartbeats 16000000 in
theorem sTidy_sound : Sound Tryz.prog 9 sTidy := by
  refine sound_of Tryz.func9 rfl (enters_of Tryz.func9 (by kernel_rfl) (by kernel_rfl)) ?_
  rintro ⟨c, xss, ns⟩ hpre
  have hE : eP ns := hpre
  have hmax : maxLen = 9223372036854775807 := rfl
  cases hM : (shM xss ns).2 with
  | false =>
    have hT : tdE xss ns = ([], []) := if_neg (by rw [hM]; decide)
    conv => whnf
    repeat' (first
      | ((first | refine plan_in (id := 7) [0, 1, 2, 3, 4, 5, 6, 7, 8, 9, 10, 11, 12, 13, 14, 15] (by kernel_rfl) (by kernel_rfl) ?_ | refine load_same ?_ | refine And.intro rfl (And.intro (List.cons_ne_nil _ _) ?_) | refine And.intro (Nat.le_of_ble_eq_true rfl) ?_ | refine callG_t ?_ | refine append_same ?_ | refine And.intro (pureL_ii _ _) ?_ | refine And.intro (pureL_nd _ _) ?_); conv => whnf) | (refine sExprOk_call (by first | omega | assumption | (refine ⟨?_, ?_⟩ <;> first | assumption | omega) | (refine ⟨?_, ?_, ?_⟩ <;> first | assumption | omega)) ?_; conv => whnf) | ((first | refine takeN_in ?_ | refine set_force ?_ | refine And.intro (by kernel_rfl) ?_ | refine aIf_ff (by assumption) ?_); conv => whnf) | refine aIf_not ?_)
    all_goals (first | (exfalso; omega) | contradiction | skip)
    exact retEB hT hM.symm (by decide) rfl rfl rfl rfl rfl rfl
  | true =>
    have hX := exI_of hM
    have hcp := hX.cpP
    have hT : tdE xss ns = (xss, tdV xss ns) := if_pos hM
    conv => whnf
    repeat' (first
      | ((first | refine l6Copy_callE hcp ?_ | refine plan_in (id := 7) [0, 1, 2, 3, 4, 5, 6, 7, 8, 9, 10, 11, 12, 13, 14, 15] (by kernel_rfl) (by kernel_rfl) ?_ | refine load_same ?_ | refine And.intro rfl (And.intro (List.cons_ne_nil _ _) ?_) | refine And.intro (Nat.le_of_ble_eq_true rfl) ?_ | refine callG_t ?_ | refine append_same ?_ | refine And.intro (pureL_ii _ _) ?_ | refine And.intro (pureL_nd _ _) ?_); conv => whnf) | (refine sExprOk_call (by first | omega | assumption | (refine ⟨?_, ?_⟩ <;> first | assumption | omega) | (refine ⟨?_, ?_, ?_⟩ <;> first | assumption | omega)) ?_; conv => whnf) | ((first | refine takeN_in ?_ | refine set_force ?_ | refine And.intro (by kernel_rfl) ?_ | refine aIf_tt (by assumption) ?_); conv => whnf) | refine aIf_not ?_)
    all_goals (first | (exfalso; omega) | contradiction | skip)
    refine loop_ut (ι := List Nd) [false, false, true, false, true, false, false, false, false, false, false, false, false, false, false, false, false, false, false, false, false, false, false, false, false, false, false, false, false, false, false, false, false] (fun _ => []) (fun L => [(8, [.ref 4 6 0 xss.length, .ref 5 6 0 L.length]), (5, L.flatMap (ndO 3))]) (fun L => eP L ∧ tdV xss L = tdV xss ns) (fun L => mu L) (ns) ⟨hE, rfl⟩ ?_ ?_
    · conv => whnf
      refine St.le.to ?_
      conv => whnf
      repeat' (first
        | exact trivial | exact rfl
        | exact Or.inl (And.intro rfl rfl) | exact pureL_ii _ _
        | exact pureL_nd _ _ | exact Or.inl (And.intro (pureL_oi _ _) rfl)
        | exact Or.inl (And.intro (pureL_ond _ _) rfl) | refine Or.inr ?_
        | refine And.intro ?_ ?_ | exact Nat.le_of_ble_eq_true rfl)
    · rintro L ⟨hL, hV⟩
      have hL : eP L := hL
      have hV : tdV xss L = tdV xss ns := hV
      rcases (show chL xss L = [] ∨ ∃ x r, chL xss L = x :: r by cases chL xss L with | nil => exact .inl rfl | cons x r => exact .inr ⟨x, r, rfl⟩) with hc | ⟨x, r, hc⟩
      · skip
        have hl0 : (chL xss L).length = 0 := by rw [hc]; rfl
        have hTL : tdE xss ns = (xss, L) := by rw [hT, ← hV, tdV_e hc]
        conv => whnf
        repeat' (first
          | ((first | refine plan_in (id := 7) [0, 1, 2, 3, 4, 5, 6, 7, 8, 9, 10, 11, 12, 13, 14, 15] (by kernel_rfl) (by kernel_rfl) ?_ | refine fun (_ : _ ≤ maxLen) => ?_ | refine And.intro (by omega) ?_ | refine load_same ?_ | refine And.intro (Nat.le_of_ble_eq_true rfl) ?_ | refine callG_t ?_ | refine append_same ?_ | refine cut_ii rfl ?_ | refine cut_nd rfl ?_ | refine sChangesOf_call (by assumption) ?_ | refine takeN_in ?_ | refine set_force ?_ | refine And.intro (by kernel_rfl) ?_); conv => whnf) | (refine aIf_dec (fun _ => ?_) (fun _ => ?_) <;> conv => whnf))
        all_goals (first | (exfalso; omega) | contradiction | skip)
        exact retEB hTL hM.symm (by decide) rfl rfl rfl rfl rfl rfl
      · skip
        obtain ⟨hx2, L', hO, hmu, hE'⟩ := step_of hc hL
        obtain ⟨hg, hl0⟩ := chL_get hc
        have hV' : tdV xss L' = tdV xss ns := (tdV_s hc hO hmu hE').symm.trans hV
        have t0 : Int.toNat 0 = 0 := rfl
        have t1 : Int.toNat 1 = 1 := rfl
        conv => whnf
        repeat' (first
          | ((first | refine get_oi0 hg hl0 ?_ | refine get_oss rfl (by rw [List.length_map]; omega) ?_ | refine sChangeDo_callL hL hO ?_ | refine plan_in (id := 7) [0, 1, 2, 3, 4, 5, 6, 7, 8, 9, 10, 11, 12, 13, 14, 15] (by kernel_rfl) (by kernel_rfl) ?_ | refine fun (_ : _ ≤ maxLen) => ?_ | refine get_nat (by omega) ?_ | refine aGet_in rfl ?_ | refine And.intro (by omega) ?_ | refine load_same ?_ | refine And.intro (Nat.le_of_ble_eq_true rfl) ?_ | refine callG_t ?_ | refine append_same ?_ | refine cut_ii rfl ?_ | refine cut_nd rfl ?_ | refine sChangesOf_call (by assumption) ?_ | refine takeN_in ?_ | refine set_force ?_ | refine And.intro (by kernel_rfl) ?_); conv => whnf) | (refine aIf_dec (fun _ => ?_) (fun _ => ?_) <;> conv => whnf))
        all_goals (first | (exfalso; omega) | contradiction | skip)
        refine next_ut L' hmu ⟨hE', hV'⟩ ?_
        conv => whnf
        refine to_force [false, false, false, false, false, false, false, false, true] ?_
        conv => whnf
        refine to_swap 4 11 [false, false, false, false, false, false, false, false, true] _ _ rfl rfl (by decide) (Nat.zero_le _) (Nat.zero_le _) ?_
        refine to_force [false, false, false, false, false, false, false, false, true] ?_
        conv => whnf
        refine to_swap 5 12 [false, false, false, false, false, false, false, false, true] _ _ rfl rfl (by decide) (Nat.zero_le _) (Nat.zero_le _) ?_
        refine to_force [false, false, false, false, false, false, false, false, true] ?_
        conv => whnf
        refine St.le.to ?_
        conv => whnf
        repeat' (first
          | exact trivial | exact rfl
          | exact Or.inl (And.intro rfl rfl) | exact pureL_ii _ _
          | exact pureL_nd _ _ | exact Or.inl (And.intro (pureL_oi _ _) rfl)
          | exact Or.inl (And.intro (pureL_ond _ _) rfl) | refine Or.inr ?_
          | refine And.intro ?_ ?_ | exact Nat.le_of_ble_eq_true rfl)
theorem sTidy_call {c : Nat} {xss : List (List Int)} {ns : List Nd} {env : List AV} {rows : List Row} {ctr low : Nat} {k : AV → St → Prop} (hE : eP ns)
    (h : k (.tup [.agg [.ref rows.length ctr 0 (tdE xss ns).1.length, .ref (rows.length + 1) ctr 0 (tdE xss ns).2.length], .bool (shM xss ns).2]) ⟨env, rows ++ [⟨ctr, 38, 1, (tdE xss ns).1.map (ownI 3)⟩, ⟨ctr, 75, 4, (tdE xss ns).2.flatMap (ndO 3)⟩], ctr + 1, low⟩) :
    CallB Tryz.prog 9 ⟨env, rows, ctr, low⟩ [.agg [.sl c xss.length (xss.map (slI c)), .sl c ns.length (ns.flatMap (ndC c))]] k := callEB_in sTidy_sound (c, xss, ns) hE h
end Go.Proofs.YtjmdhfjemaoebaaGreat
