import Derived.Test.YtmgggbgejdkamaaM01x21
import Derived.Test.YtmgggbgejdkamaaV15
import Derived.Test.YtmgggbgejdkamaaM01x19
/- Chapter 5: OrderCost of the program. -/
namespace Go.Proofs.Ytmgggbgejdkamaa
set_option maxRecDepth 20000
open Go.RowKit Go.Am
set_option linter.unusedSimpArgs false
attribute [local irreducible] aPlan aGet aIf aLoop aCall RetB NextB CallB CallG aCut aSet aAppend
set_option maxHeartbeats 16000000 in
theorem iOrderCost_sound : Sound Try.prog 38 sOrderCost := by
  refine sound_of Try.func38 rfl (enters_of Try.func38 (by kernel_rfl) (by kernel_rfl)) ?_
  rintro ⟨⟨c, zs, d, fs, q, o⟩, g, ps⟩ -
  have hmax : maxLen = 9223372036854775807 := rfl
  by_cases hs : sumP zs fs o
  · have hS : okS (zs, fs, o) := okP_of hs
    have h4 := hs.2.2.1
    have hw : IntKind.i64.wrap ((fs.length : Int) - 1) = fs.length - 1 := IntWalk.i64_in _ (by omega)
    by_cases hlen : ps.length + 1 = fs.length
    · conv => whnf
      repeat' (first
        | (refine aIf_t ?_; conv => whnf)
        | (refine aIf_f ?_; conv => whnf)
        | (refine fun (_ : _ ≤ maxLen) => ?_; conv => whnf)
        | (refine aGet_in rfl ?_; conv => whnf)
        | (refine load_same ?_; conv => whnf)
        | (refine And.intro rfl (And.intro (List.cons_ne_nil _ _) ?_); conv => whnf)
        | (refine And.intro (Nat.le_of_ble_eq_true rfl) ?_; conv => whnf)
        | (refine callG_t ?_; conv => whnf)
        | (refine append_same ?_; conv => whnf)
        | (refine And.intro (pureL_ii _ _) ?_; conv => whnf)
        | (refine iSumOk_call trivial ?_; conv => whnf)
        | (refine takeN_in ?_; conv => whnf)
        | (refine And.intro (pureL_ints _ _) ?_; conv => whnf)
        | (refine And.intro (by kernel_rfl) ?_; conv => whnf)
        | refine aIf_eqf ?_
        | refine aIf_not ?_
        | (refine aIf_dec (fun _ => ?_) (fun _ => ?_) <;> conv => whnf))
      all_goals (first | (exfalso; omega) | contradiction | skip)
      refine loop_to (ι := Nat × Bool) (fun | (i, true) => ⟨[.un, .un, .ptr 0 1 0, .un, .un, .int .i64 (orC (zs, fs, o) ps i), .un, .un, .un, .un, .un, .un, .un, .un, .un, .un, .un, .un, .un, .un, .un, .un, .un, .sl g ps.length (ps.map (slI g)), .int .i64 ps.length, .int .i64 i, .un, .un, .un, .un, .un, .un, .un, .un, .un, .un, .un, .un, .un, .un, .un, .un, .un, .un, .un, .un, .un, .un, .un, .un, .un, .un, .un], [⟨1, 29, 3, [.sl c zs.length (zs.map (.int .i64)), .sl d fs.length (fs.map (slI d)), .sl q o.length (o.map (.int .i64))]⟩], 9, 0⟩ | (i, false) => ⟨[.un, .un, .ptr 0 1 0, .un, .un, .int .i64 (orC (zs, fs, o) ps i), .un, .un, .un, .un, .un, .un, .un, .un, .un, .un, .un, .un, .un, .un, .un, .un, .un, .sl g ps.length (ps.map (slI g)), .int .i64 ps.length, .int .i64 i, .un, .un, .un, .un, .un, .un, .un, .un, .un, .un, .un, .un, .un, .un, .un, .un, .un, .un, .un, .un, .un, .un, .un, .un, .un, .un, .un], [⟨1, 29, 3, [.ref 1 2 0 (own (orS (zs, fs, o) ps (i))).1.length, .ref 2 3 0 (own (orS (zs, fs, o) ps (i))).2.1.length, .ref 3 4 0 (own (orS (zs, fs, o) ps (i))).2.2.length]⟩, ⟨2, 3, 1, (own (orS (zs, fs, o) ps (i))).1.map (.int .i64)⟩, ⟨3, 22, 1, (own (orS (zs, fs, o) ps (i))).2.1.map (ownI 3)⟩, ⟨4, 3, 1, (own (orS (zs, fs, o) ps (i))).2.2.map (.int .i64)⟩], 9, 0⟩) (fun x => x.1 ≤ ps.length ∧ orP (zs, fs, o) ps x.1 ∧ (x.2 = true → x.1 = 0)) (fun x => ps.length - x.1) (0, true) ⟨Nat.zero_le _, orP_0 _ _, fun _ => rfl⟩ ?_ ?_
      · refine St.le.to ?_
        conv => whnf
        repeat' (first
          | exact trivial
          | exact rfl
          | exact pureL_ints _ _
          | exact pureL_ii _ _
          | refine Or.inr ?_
          | refine And.intro ?_ ?_
          | exact Nat.le_of_ble_eq_true rfl)
      · rintro ⟨i, first⟩ hi
        obtain ⟨hi, hP, hz⟩ := hi
        have hi : i ≤ ps.length := hi
        have hP : orP (zs, fs, o) ps i := hP
        have hT := orS_ok hS i hP
        cases first with
        | true =>
          have e0 : orS (zs, fs, o) ps i = (zs, fs, o) := by rw [show i = 0 from hz rfl]; rfl
          by_cases hlt : i < ps.length
          · by_cases hp2 : (ps.getD i []).length = 2
            · obtain ⟨W, hW⟩ : ∃ W, mgW (zs, fs, o) ((ps.getD i []).getD (Int.toNat 0) 0) ((ps.getD i []).getD (Int.toNat 1) 0) = W := ⟨_, rfl⟩
              obtain ⟨B, hB⟩ : ∃ B, mgB (zs, fs, o) ((ps.getD i []).getD (Int.toNat 0) 0) ((ps.getD i []).getD (Int.toNat 1) 0) = B := ⟨_, rfl⟩
              obtain ⟨b, hb⟩ : ∃ b, decide (mgP (zs, fs, o) ((ps.getD i []).getD (Int.toNat 0) 0) ((ps.getD i []).getD (Int.toNat 1) 0)) = b := ⟨_, rfl⟩
              have hmg : mgP (zs, fs, o) ((ps.getD i []).getD (Int.toNat 0) 0) ((ps.getD i []).getD (Int.toNat 1) 0) ↔ okPr (orS (zs, fs, o) ps i) (ps.getD i []) := by rw [e0]; exact mgP_pr0 hs hp2
              conv => whnf
              repeat' (first
                | (refine fun (_ : _ ≤ maxLen) => ?_; conv => whnf)
                | (refine And.intro (by omega) ?_; conv => whnf)
                | (refine append_same ?_; conv => whnf)
                | (refine get_ii_n (by omega) ?_; conv => whnf)
                | refine aIf_not ?_
                | (refine aIf_dec (fun _ => ?_) (fun _ => ?_) <;> conv => whnf))
              all_goals (first | (exfalso; omega) | contradiction | skip)
              refine share_in (id := 9) (.one 0 (.one 1 (.one 2 (.one 3 (.one 4 (.one 5 (.one 6 (.tri 7 12 13 (.one 8 (.one 9 (.one 10 (.one 11 (.two 12 13 (.one 13 (.one 14 (.one 15 (.one 16 .nil)))) (.one 12 (.one 14 (.one 15 (.one 16 .nil))))))))) (.two 7 13 (.one 8 (.one 9 (.one 10 (.one 11 (.one 13 (.one 14 (.one 15 (.one 16 .nil)))))))) (.one 7 (.one 8 (.one 9 (.one 10 (.one 11 (.one 14 (.one 15 (.one 16 .nil))))))))) (.two 7 12 (.one 8 (.one 9 (.one 10 (.one 11 (.one 12 (.one 14 (.one 15 (.one 16 .nil)))))))) (.one 7 (.one 8 (.one 9 (.one 10 (.one 11 (.one 14 (.one 15 (.one 16 .nil))))))))))))))))) (⟨[.un, .un, .ptr 0 1 0, .un, .un, .int .i64 (orC (zs, fs, o) ps i), .un, .un, .ptr 7 13 0, .ptr 8 17 0, .bool b, .un, .un, .un, .un, .un, .un, .un, .un, .un, .un, .un, .un, .sl g ps.length (ps.map (slI g)), .int .i64 ps.length, .int .i64 i, .un, .un, .un, .un, .un, .un, .un, .un, .un, .un, .un, .un, .un, .un, .un, .un, .un, .un, .un, .un, .un, .un, .un, .un, .un, .un, .un], [⟨1, 29, 3, [.sl c zs.length (zs.map (.int .i64)), .sl d fs.length (fs.map (slI d)), .sl q o.length (o.map (.int .i64))]⟩, ⟨9, 3, 1, W.1.map (.int .i64)⟩, ⟨9, 22, 1, W.2.1.map (ownI 3)⟩, ⟨9, 3, 1, W.2.2.map (.int .i64)⟩, ⟨9, 3, 1, B.1.map (.int .i64)⟩, ⟨9, 22, 1, B.2.1.map (ownI 3)⟩, ⟨9, 3, 1, B.2.2.map (.int .i64)⟩, ⟨13, 29, 3, [.ref 1 9 0 W.1.length, .ref 2 9 0 W.2.1.length, .ref 3 9 0 W.2.2.length]⟩, ⟨17, 29, 3, [.ref 4 9 0 B.1.length, .ref 5 9 0 B.2.1.length, .ref 6 9 0 B.2.2.length]⟩], 30, 0⟩) (by kernel_rfl) (by kernel_rfl) ?_ ?_
              · by_cases hok : okPr (orS (zs, fs, o) ps i) (ps.getD i [])
                · obtain rfl : b = true := hb.symm.trans (decide_eq_true (hmg.2 hok))
                  obtain rfl : W = (own (orS (zs, fs, o) ps (i + 1))) := hW.symm.trans (mgW_st0 e0 hs hok)
                  have hc : IntKind.i64.wrap (orC (zs, fs, o) ps i + scN B.1 B.2.1 B.2.2) = orC (zs, fs, o) ps (i + 1) := by rw [← hB, scB_st0 e0 hs hok]; rfl
                  conv => whnf
                  repeat' (first
                    | (refine aIf_f ?_; conv => whnf)
                    | (refine load_same ?_; conv => whnf)
                    | (refine And.intro (Nat.le_of_ble_eq_true rfl) ?_; conv => whnf)
                    | (refine callG_t ?_; conv => whnf)
                    | (refine append_same ?_; conv => whnf)
                    | (refine cut_ii rfl ?_; conv => whnf)
                    | (refine iSumCost_call trivial ?_; conv => whnf)
                    | (refine takeN_in ?_; conv => whnf)
                    | (refine cut_ints ?_; conv => whnf)
                    | (refine set_force ?_; conv => whnf)
                    | (refine And.intro (by kernel_rfl) ?_; conv => whnf))
                  all_goals (first | (exfalso; omega) | contradiction | skip)
                  refine next_to (i + 1, false) (show ps.length - (i + 1) < ps.length - i by omega) ⟨(by omega : i + 1 ≤ ps.length), orP_s hP hok, fun h => Bool.noConfusion h⟩ ?_
                  refine St.le.to ?_
                  conv => whnf
                  repeat' (first
                    | exact trivial
                    | exact rfl
                    | exact le_ints rfl
                    | exact pureL_ii _ _
                    | exact Or.inl (And.intro (pureL_oi _ _) rfl)
                    | refine Or.inr ?_
                    | refine And.intro ?_ ?_
                    | exact Nat.le_of_ble_eq_true rfl
                    | exact int_eq (by assumption)
                    | exact int_eq (by rw [IntWalk.i64_in _ (by omega)] <;> omega))
                · obtain rfl : b = false := hb.symm.trans (decide_eq_false fun h => hok (hmg.1 h))
                  conv => whnf
                  repeat' (first
                    | (refine aIf_t ?_; conv => whnf)
                    | (refine append_same ?_; conv => whnf))
                  all_goals (first | (exfalso; omega) | contradiction | skip)
                  exact retS rfl (int_eq (odC_f fun h => hok (h.2.1 _ hlt)).symm)
              · skip
                conv => whnf
                repeat' (first
                  | (refine iMergeOf_callW hW hB hb ?_; conv => whnf)
                  | (refine fork_in ?_ ?_ <;> conv => whnf)
                  | (refine get_int (by omega) ?_; conv => whnf)
                  | (refine aGet_in rfl ?_; conv => whnf)
                  | (refine And.intro (by omega) ?_; conv => whnf)
                  | (refine load_same ?_; conv => whnf)
                  | (refine And.intro (Nat.le_of_ble_eq_true rfl) ?_; conv => whnf)
                  | (refine append_same ?_; conv => whnf)
                  | (refine And.intro (pureL_ii _ _) ?_; conv => whnf)
                  | (refine takeN_in ?_; conv => whnf)
                  | (refine And.intro (pureL_ints _ _) ?_; conv => whnf)
                  | (refine set_force ?_; conv => whnf)
                  | (refine And.intro (by kernel_rfl) ?_; conv => whnf))
                all_goals first
                  | (skip
                     refine to_force [false, false, false, false, false, false, false, false, false, false, true, false, false, false, true] ?_
                     conv => whnf
                     refine to_swap 7 10 [false, false, false, false, false, false, false, true, false, false, false, false, false, false, true] _ _ rfl rfl (by decide) (Nat.zero_le _) (Nat.zero_le _) ?_
                     refine to_force [false, false, false, false, false, false, false, true, false, false, false, false, false, false, true] ?_
                     conv => whnf
                     refine to_swap 8 14 [false, false, false, false, false, false, false, true, true] _ _ rfl rfl (by decide) (Nat.zero_le _) (Nat.zero_le _) ?_
                     refine to_force [false, false, false, false, false, false, false, true, true] ?_
                     conv => whnf
                     refine St.le.to ?_
                     conv => whnf
                     repeat' (first
                       | exact trivial
                       | exact rfl
                       | exact pureL_ints _ _
                       | exact le_ints rfl
                       | exact pureL_ii _ _
                       | exact Or.inl (And.intro (pureL_oi _ _) rfl)
                       | refine Or.inr ?_
                       | refine And.intro ?_ ?_
                       | exact Nat.le_of_ble_eq_true rfl)
                     done)
                  | (skip
                     refine to_force [false, false, false, false, false, false, false, false, false, false, true, false, false, false, true] ?_
                     conv => whnf
                     refine to_swap 7 14 [false, false, false, false, false, false, false, true, false, false, true] _ _ rfl rfl (by decide) (Nat.zero_le _) (Nat.zero_le _) ?_
                     refine to_force [false, false, false, false, false, false, false, true, false, false, true] ?_
                     conv => whnf
                     refine to_swap 8 10 [false, false, false, false, false, false, false, true, true] _ _ rfl rfl (by decide) (Nat.zero_le _) (Nat.zero_le _) ?_
                     refine to_force [false, false, false, false, false, false, false, true, true] ?_
                     conv => whnf
                     refine St.le.to ?_
                     conv => whnf
                     repeat' (first
                       | exact trivial
                       | exact rfl
                       | exact pureL_ints _ _
                       | exact le_ints rfl
                       | exact pureL_ii _ _
                       | exact Or.inl (And.intro (pureL_oi _ _) rfl)
                       | refine Or.inr ?_
                       | refine And.intro ?_ ?_
                       | exact Nat.le_of_ble_eq_true rfl)
                     done)
                  | (skip
                     refine to_force [false, false, false, false, true, false, false, false, false, false, false, false, false, false, true] ?_
                     conv => whnf
                     refine to_swap 1 5 [false, false, false, false, true, false, false, false, false, false, false, false, false, false, true] _ _ rfl rfl (by decide) (Nat.zero_le _) (Nat.zero_le _) ?_
                     refine to_force [false, false, false, false, true, false, false, false, false, false, false, false, false, false, true] ?_
                     conv => whnf
                     refine to_swap 2 6 [false, false, false, false, true, false, false, false, false, false, false, false, false, false, true] _ _ rfl rfl (by decide) (Nat.zero_le _) (Nat.zero_le _) ?_
                     refine to_force [false, false, false, false, true, false, false, false, false, false, false, false, false, false, true] ?_
                     conv => whnf
                     refine to_swap 3 7 [false, false, false, false, true, false, false, false, false, false, false, false, false, false, true] _ _ rfl rfl (by decide) (Nat.zero_le _) (Nat.zero_le _) ?_
                     refine to_force [false, false, false, false, true, false, false, false, false, false, false, false, false, false, true] ?_
                     conv => whnf
                     refine to_swap 4 8 [false, false, false, false, false, false, false, false, true, false, false, false, false, false, true] _ _ rfl rfl (by decide) (Nat.zero_le _) (Nat.zero_le _) ?_
                     refine to_force [false, false, false, false, false, false, false, false, true, false, false, false, false, false, true] ?_
                     conv => whnf
                     refine to_swap 5 9 [false, false, false, false, false, false, false, false, true, false, false, false, false, false, true] _ _ rfl rfl (by decide) (Nat.zero_le _) (Nat.zero_le _) ?_
                     refine to_force [false, false, false, false, false, false, false, false, true, false, false, false, false, false, true] ?_
                     conv => whnf
                     refine to_swap 6 10 [false, false, false, false, false, false, false, false, true, false, false, false, false, false, true] _ _ rfl rfl (by decide) (Nat.zero_le _) (Nat.zero_le _) ?_
                     refine to_force [false, false, false, false, false, false, false, false, true, false, false, false, false, false, true] ?_
                     conv => whnf
                     refine to_swap 7 8 [false, false, false, false, false, false, false, true, false, false, false, false, false, false, true] _ _ rfl rfl (by decide) (Nat.zero_le _) (Nat.zero_le _) ?_
                     refine to_force [false, false, false, false, false, false, false, true, false, false, false, false, false, false, true] ?_
                     conv => whnf
                     refine to_swap 8 14 [false, false, false, false, false, false, false, true, true] _ _ rfl rfl (by decide) (Nat.zero_le _) (Nat.zero_le _) ?_
                     refine to_force [false, false, false, false, false, false, false, true, true] ?_
                     conv => whnf
                     refine St.le.to ?_
                     conv => whnf
                     repeat' (first
                       | exact trivial
                       | exact rfl
                       | exact pureL_ints _ _
                       | exact le_ints rfl
                       | exact pureL_ii _ _
                       | exact Or.inl (And.intro (pureL_oi _ _) rfl)
                       | refine Or.inr ?_
                       | refine And.intro ?_ ?_
                       | exact Nat.le_of_ble_eq_true rfl)
                     done)
                  | (skip
                     refine to_force [false, false, false, false, true, false, false, false, true] ?_
                     conv => whnf
                     refine to_swap 1 9 [false, false, false, false, true, false, false, false, true] _ _ rfl rfl (by decide) (Nat.zero_le _) (Nat.zero_le _) ?_
                     refine to_force [false, false, false, false, true, false, false, false, true] ?_
                     conv => whnf
                     refine to_swap 2 10 [false, false, false, false, true, false, false, false, true] _ _ rfl rfl (by decide) (Nat.zero_le _) (Nat.zero_le _) ?_
                     refine to_force [false, false, false, false, true, false, false, false, true] ?_
                     conv => whnf
                     refine to_swap 3 11 [false, false, false, false, true, false, false, false, true] _ _ rfl rfl (by decide) (Nat.zero_le _) (Nat.zero_le _) ?_
                     refine to_force [false, false, false, false, true, false, false, false, true] ?_
                     conv => whnf
                     refine to_swap 4 12 [false, false, false, false, false, false, false, false, true, false, false, false, true] _ _ rfl rfl (by decide) (Nat.zero_le _) (Nat.zero_le _) ?_
                     refine to_force [false, false, false, false, false, false, false, false, true, false, false, false, true] ?_
                     conv => whnf
                     refine to_swap 5 13 [false, false, false, false, false, false, false, false, true, false, false, false, true] _ _ rfl rfl (by decide) (Nat.zero_le _) (Nat.zero_le _) ?_
                     refine to_force [false, false, false, false, false, false, false, false, true, false, false, false, true] ?_
                     conv => whnf
                     refine to_swap 6 14 [false, false, false, false, false, false, false, false, true, false, false, false, true] _ _ rfl rfl (by decide) (Nat.zero_le _) (Nat.zero_le _) ?_
                     refine to_force [false, false, false, false, false, false, false, false, true, false, false, false, true] ?_
                     conv => whnf
                     refine to_swap 7 12 [false, false, false, false, false, false, false, true, true] _ _ rfl rfl (by decide) (Nat.zero_le _) (Nat.zero_le _) ?_
                     refine to_force [false, false, false, false, false, false, false, true, true] ?_
                     conv => whnf
                     refine St.le.to ?_
                     conv => whnf
                     repeat' (first
                       | exact trivial
                       | exact rfl
                       | exact pureL_ints _ _
                       | exact le_ints rfl
                       | exact pureL_ii _ _
                       | exact Or.inl (And.intro (pureL_oi _ _) rfl)
                       | refine Or.inr ?_
                       | refine And.intro ?_ ?_
                       | exact Nat.le_of_ble_eq_true rfl)
                     done)
                  | (skip
                     refine to_force [false, false, false, false, true, false, false, false, false, false, false, false, false, false, true] ?_
                     conv => whnf
                     refine to_swap 1 5 [false, false, false, false, true, false, false, false, false, false, false, false, false, false, true] _ _ rfl rfl (by decide) (Nat.zero_le _) (Nat.zero_le _) ?_
                     refine to_force [false, false, false, false, true, false, false, false, false, false, false, false, false, false, true] ?_
                     conv => whnf
                     refine to_swap 2 6 [false, false, false, false, true, false, false, false, false, false, false, false, false, false, true] _ _ rfl rfl (by decide) (Nat.zero_le _) (Nat.zero_le _) ?_
                     refine to_force [false, false, false, false, true, false, false, false, false, false, false, false, false, false, true] ?_
                     conv => whnf
                     refine to_swap 3 7 [false, false, false, false, true, false, false, false, false, false, false, false, false, false, true] _ _ rfl rfl (by decide) (Nat.zero_le _) (Nat.zero_le _) ?_
                     refine to_force [false, false, false, false, true, false, false, false, false, false, false, false, false, false, true] ?_
                     conv => whnf
                     refine to_swap 4 8 [false, false, false, false, false, false, false, false, true, false, false, false, false, false, true] _ _ rfl rfl (by decide) (Nat.zero_le _) (Nat.zero_le _) ?_
                     refine to_force [false, false, false, false, false, false, false, false, true, false, false, false, false, false, true] ?_
                     conv => whnf
                     refine to_swap 5 9 [false, false, false, false, false, false, false, false, true, false, false, false, false, false, true] _ _ rfl rfl (by decide) (Nat.zero_le _) (Nat.zero_le _) ?_
                     refine to_force [false, false, false, false, false, false, false, false, true, false, false, false, false, false, true] ?_
                     conv => whnf
                     refine to_swap 6 10 [false, false, false, false, false, false, false, false, true, false, false, false, false, false, true] _ _ rfl rfl (by decide) (Nat.zero_le _) (Nat.zero_le _) ?_
                     refine to_force [false, false, false, false, false, false, false, false, true, false, false, false, false, false, true] ?_
                     conv => whnf
                     refine to_swap 7 14 [false, false, false, false, false, false, false, true, true] _ _ rfl rfl (by decide) (Nat.zero_le _) (Nat.zero_le _) ?_
                     refine to_force [false, false, false, false, false, false, false, true, true] ?_
                     conv => whnf
                     refine St.le.to ?_
                     conv => whnf
                     repeat' (first
                       | exact trivial
                       | exact rfl
                       | exact pureL_ints _ _
                       | exact le_ints rfl
                       | exact pureL_ii _ _
                       | exact Or.inl (And.intro (pureL_oi _ _) rfl)
                       | refine Or.inr ?_
                       | refine And.intro ?_ ?_
                       | exact Nat.le_of_ble_eq_true rfl)
                     done)
                  | (skip
                     refine to_force [false, false, false, false, true, false, false, false, true] ?_
                     conv => whnf
                     refine to_swap 1 9 [false, false, false, false, true, false, false, false, true] _ _ rfl rfl (by decide) (Nat.zero_le _) (Nat.zero_le _) ?_
                     refine to_force [false, false, false, false, true, false, false, false, true] ?_
                     conv => whnf
                     refine to_swap 2 10 [false, false, false, false, true, false, false, false, true] _ _ rfl rfl (by decide) (Nat.zero_le _) (Nat.zero_le _) ?_
                     refine to_force [false, false, false, false, true, false, false, false, true] ?_
                     conv => whnf
                     refine to_swap 3 11 [false, false, false, false, true, false, false, false, true] _ _ rfl rfl (by decide) (Nat.zero_le _) (Nat.zero_le _) ?_
                     refine to_force [false, false, false, false, true, false, false, false, true] ?_
                     conv => whnf
                     refine to_swap 4 12 [false, false, false, false, false, false, false, false, true, false, false, false, true] _ _ rfl rfl (by decide) (Nat.zero_le _) (Nat.zero_le _) ?_
                     refine to_force [false, false, false, false, false, false, false, false, true, false, false, false, true] ?_
                     conv => whnf
                     refine to_swap 5 13 [false, false, false, false, false, false, false, false, true, false, false, false, true] _ _ rfl rfl (by decide) (Nat.zero_le _) (Nat.zero_le _) ?_
                     refine to_force [false, false, false, false, false, false, false, false, true, false, false, false, true] ?_
                     conv => whnf
                     refine to_swap 6 14 [false, false, false, false, false, false, false, false, true, false, false, false, true] _ _ rfl rfl (by decide) (Nat.zero_le _) (Nat.zero_le _) ?_
                     refine to_force [false, false, false, false, false, false, false, false, true, false, false, false, true] ?_
                     conv => whnf
                     refine to_swap 7 8 [false, false, false, false, false, false, false, true, false, false, false, false, true] _ _ rfl rfl (by decide) (Nat.zero_le _) (Nat.zero_le _) ?_
                     refine to_force [false, false, false, false, false, false, false, true, false, false, false, false, true] ?_
                     conv => whnf
                     refine to_swap 8 12 [false, false, false, false, false, false, false, true, true] _ _ rfl rfl (by decide) (Nat.zero_le _) (Nat.zero_le _) ?_
                     refine to_force [false, false, false, false, false, false, false, true, true] ?_
                     conv => whnf
                     refine St.le.to ?_
                     conv => whnf
                     repeat' (first
                       | exact trivial
                       | exact rfl
                       | exact pureL_ints _ _
                       | exact le_ints rfl
                       | exact pureL_ii _ _
                       | exact Or.inl (And.intro (pureL_oi _ _) rfl)
                       | refine Or.inr ?_
                       | refine And.intro ?_ ?_
                       | exact Nat.le_of_ble_eq_true rfl)
                     done)
            · conv => whnf
              repeat' (first
                | (refine fun (_ : _ ≤ maxLen) => ?_; conv => whnf)
                | (refine And.intro (by omega) ?_; conv => whnf)
                | (refine append_same ?_; conv => whnf)
                | (refine get_ii_n (by omega) ?_; conv => whnf)
                | refine aIf_not ?_
                | (refine aIf_dec (fun _ => ?_) (fun _ => ?_) <;> conv => whnf))
              all_goals (first | (exfalso; omega) | contradiction | skip)
              exact retS rfl (int_eq (odC_f fun h => hp2 (h.2.1 _ hlt).1).symm)
          · have he : i = ps.length := by omega
            conv => whnf
            repeat' (first
              | (refine fun (_ : _ ≤ maxLen) => ?_; conv => whnf)
              | (refine And.intro (by omega) ?_; conv => whnf)
              | (refine append_same ?_; conv => whnf)
              | (refine get_ii_n (by omega) ?_; conv => whnf)
              | refine aIf_not ?_
              | (refine aIf_dec (fun _ => ?_) (fun _ => ?_) <;> conv => whnf))
            all_goals (first | (exfalso; omega) | contradiction | skip)
            exact retS rfl (int_eq ((congrArg (orC (zs, fs, o) ps) he).trans (odC_t (odP_of (S := (zs, fs, o)) hs hlen (he ▸ hP))).symm))
        | false =>
          by_cases hlt : i < ps.length
          · by_cases hp2 : (ps.getD i []).length = 2
            · obtain ⟨W, hW⟩ : ∃ W, mgW (own (orS (zs, fs, o) ps (i))) ((ps.getD i []).getD (Int.toNat 0) 0) ((ps.getD i []).getD (Int.toNat 1) 0) = W := ⟨_, rfl⟩
              obtain ⟨B, hB⟩ : ∃ B, mgB (own (orS (zs, fs, o) ps (i))) ((ps.getD i []).getD (Int.toNat 0) 0) ((ps.getD i []).getD (Int.toNat 1) 0) = B := ⟨_, rfl⟩
              obtain ⟨b, hb⟩ : ∃ b, decide (mgP (own (orS (zs, fs, o) ps (i))) ((ps.getD i []).getD (Int.toNat 0) 0) ((ps.getD i []).getD (Int.toNat 1) 0)) = b := ⟨_, rfl⟩
              have hmg : mgP (own (orS (zs, fs, o) ps (i))) ((ps.getD i []).getD (Int.toNat 0) 0) ((ps.getD i []).getD (Int.toNat 1) 0) ↔ okPr (orS (zs, fs, o) ps i) (ps.getD i []) := mgP_pr hT hp2
              conv => whnf
              repeat' (first
                | (refine fun (_ : _ ≤ maxLen) => ?_; conv => whnf)
                | (refine And.intro (by omega) ?_; conv => whnf)
                | (refine append_same ?_; conv => whnf)
                | (refine get_ii_n (by omega) ?_; conv => whnf)
                | refine aIf_not ?_
                | (refine aIf_dec (fun _ => ?_) (fun _ => ?_) <;> conv => whnf))
              all_goals (first | (exfalso; omega) | contradiction | skip)
              refine share_in (id := 9) (.one 0 (.one 1 (.one 2 (.one 3 (.one 4 (.one 5 (.one 6 (.tri 7 12 13 (.one 8 (.one 9 (.one 10 (.one 11 (.two 12 13 (.one 13 (.one 14 (.one 15 (.one 16 .nil)))) (.one 12 (.one 14 (.one 15 (.one 16 .nil))))))))) (.two 7 13 (.one 8 (.one 9 (.one 10 (.one 11 (.one 13 (.one 14 (.one 15 (.one 16 .nil)))))))) (.one 7 (.one 8 (.one 9 (.one 10 (.one 11 (.one 14 (.one 15 (.one 16 .nil))))))))) (.two 7 12 (.one 8 (.one 9 (.one 10 (.one 11 (.one 12 (.one 14 (.one 15 (.one 16 .nil)))))))) (.one 7 (.one 8 (.one 9 (.one 10 (.one 11 (.one 14 (.one 15 (.one 16 .nil))))))))))))))))) (⟨[.un, .un, .ptr 0 1 0, .un, .un, .int .i64 (orC (zs, fs, o) ps i), .un, .un, .ptr 10 13 0, .ptr 11 17 0, .bool b, .un, .un, .un, .un, .un, .un, .un, .un, .un, .un, .un, .un, .sl g ps.length (ps.map (slI g)), .int .i64 ps.length, .int .i64 i, .un, .un, .un, .un, .un, .un, .un, .un, .un, .un, .un, .un, .un, .un, .un, .un, .un, .un, .un, .un, .un, .un, .un, .un, .un, .un, .un], [⟨1, 29, 3, [.ref 1 2 0 (own (orS (zs, fs, o) ps (i))).1.length, .ref 2 3 0 (own (orS (zs, fs, o) ps (i))).2.1.length, .ref 3 4 0 (own (orS (zs, fs, o) ps (i))).2.2.length]⟩, ⟨2, 3, 1, (own (orS (zs, fs, o) ps (i))).1.map (.int .i64)⟩, ⟨3, 22, 1, (own (orS (zs, fs, o) ps (i))).2.1.map (ownI 3)⟩, ⟨4, 3, 1, (own (orS (zs, fs, o) ps (i))).2.2.map (.int .i64)⟩, ⟨9, 3, 1, W.1.map (.int .i64)⟩, ⟨9, 22, 1, W.2.1.map (ownI 3)⟩, ⟨9, 3, 1, W.2.2.map (.int .i64)⟩, ⟨9, 3, 1, B.1.map (.int .i64)⟩, ⟨9, 22, 1, B.2.1.map (ownI 3)⟩, ⟨9, 3, 1, B.2.2.map (.int .i64)⟩, ⟨13, 29, 3, [.ref 4 9 0 W.1.length, .ref 5 9 0 W.2.1.length, .ref 6 9 0 W.2.2.length]⟩, ⟨17, 29, 3, [.ref 7 9 0 B.1.length, .ref 8 9 0 B.2.1.length, .ref 9 9 0 B.2.2.length]⟩], 30, 0⟩) (by kernel_rfl) (by kernel_rfl) ?_ ?_
              · by_cases hok : okPr (orS (zs, fs, o) ps i) (ps.getD i [])
                · obtain rfl : b = true := hb.symm.trans (decide_eq_true (hmg.2 hok))
                  obtain rfl : W = (own (orS (zs, fs, o) ps (i + 1))) := hW.symm.trans (mgW_st hT hok)
                  have hc : IntKind.i64.wrap (orC (zs, fs, o) ps i + scN B.1 B.2.1 B.2.2) = orC (zs, fs, o) ps (i + 1) := by rw [← hB, scB_st hT hok]; rfl
                  conv => whnf
                  repeat' (first
                    | (refine aIf_f ?_; conv => whnf)
                    | (refine load_same ?_; conv => whnf)
                    | (refine And.intro (Nat.le_of_ble_eq_true rfl) ?_; conv => whnf)
                    | (refine callG_t ?_; conv => whnf)
                    | (refine append_same ?_; conv => whnf)
                    | (refine cut_ii rfl ?_; conv => whnf)
                    | (refine iSumCost_call trivial ?_; conv => whnf)
                    | (refine takeN_in ?_; conv => whnf)
                    | (refine cut_ints ?_; conv => whnf)
                    | (refine set_force ?_; conv => whnf)
                    | (refine And.intro (by kernel_rfl) ?_; conv => whnf))
                  all_goals (first | (exfalso; omega) | contradiction | skip)
                  refine next_to (i + 1, false) (show ps.length - (i + 1) < ps.length - i by omega) ⟨(by omega : i + 1 ≤ ps.length), orP_s hP hok, fun h => Bool.noConfusion h⟩ ?_
                  refine to_force [true] ?_
                  conv => whnf
                  refine to_swap 1 4 [true] _ _ rfl rfl (by decide) (Nat.zero_le _) (Nat.zero_le _) ?_
                  refine to_force [true] ?_
                  conv => whnf
                  refine to_swap 2 5 [true] _ _ rfl rfl (by decide) (Nat.zero_le _) (Nat.zero_le _) ?_
                  refine to_force [true] ?_
                  conv => whnf
                  refine to_swap 3 6 [true] _ _ rfl rfl (by decide) (Nat.zero_le _) (Nat.zero_le _) ?_
                  refine to_force [true] ?_
                  conv => whnf
                  refine St.le.to ?_
                  conv => whnf
                  repeat' (first
                    | exact trivial
                    | exact rfl
                    | exact le_ints rfl
                    | exact pureL_ii _ _
                    | exact Or.inl (And.intro (pureL_oi _ _) rfl)
                    | refine Or.inr ?_
                    | refine And.intro ?_ ?_
                    | exact Nat.le_of_ble_eq_true rfl
                    | exact int_eq (by assumption)
                    | exact int_eq (by rw [IntWalk.i64_in _ (by omega)] <;> omega))
                · obtain rfl : b = false := hb.symm.trans (decide_eq_false fun h => hok (hmg.1 h))
                  conv => whnf
                  repeat' (first
                    | (refine aIf_t ?_; conv => whnf)
                    | (refine append_same ?_; conv => whnf))
                  all_goals (first | (exfalso; omega) | contradiction | skip)
                  exact retS rfl (int_eq (odC_f fun h => hok (h.2.1 _ hlt)).symm)
              · skip
                conv => whnf
                repeat' (first
                  | (refine iMergeOf_callW hW hB hb ?_; conv => whnf)
                  | (refine iMergeOf_callW hW hB hb ?_; conv => whnf)
                  | (refine fork_in ?_ ?_ <;> conv => whnf)
                  | (refine get_int (by omega) ?_; conv => whnf)
                  | (refine aGet_in rfl ?_; conv => whnf)
                  | (refine And.intro (by omega) ?_; conv => whnf)
                  | (refine load_same ?_; conv => whnf)
                  | (refine And.intro (Nat.le_of_ble_eq_true rfl) ?_; conv => whnf)
                  | (refine append_same ?_; conv => whnf)
                  | (refine cut_ii rfl ?_; conv => whnf)
                  | (refine takeN_in ?_; conv => whnf)
                  | (refine cut_ints ?_; conv => whnf)
                  | (refine set_force ?_; conv => whnf)
                  | (refine And.intro (by kernel_rfl) ?_; conv => whnf))
                all_goals first
                  | (skip
                     refine to_force [true, false, false, false, false, false, false, false, false, false, false, false, false, true, false, false, false, true] ?_
                     conv => whnf
                     refine to_swap 10 13 [true, false, false, false, false, false, false, false, false, false, true, false, false, false, false, false, false, true] _ _ rfl rfl (by decide) (Nat.zero_le _) (Nat.zero_le _) ?_
                     refine to_force [true, false, false, false, false, false, false, false, false, false, true, false, false, false, false, false, false, true] ?_
                     conv => whnf
                     refine to_swap 11 17 [true, false, false, false, false, false, false, false, false, false, true, true] _ _ rfl rfl (by decide) (Nat.zero_le _) (Nat.zero_le _) ?_
                     refine to_force [true, false, false, false, false, false, false, false, false, false, true, true] ?_
                     conv => whnf
                     refine St.le.to ?_
                     conv => whnf
                     repeat' (first
                       | exact trivial
                       | exact rfl
                       | exact le_ints rfl
                       | exact pureL_ii _ _
                       | exact Or.inl (And.intro (pureL_oi _ _) rfl)
                       | refine Or.inr ?_
                       | refine And.intro ?_ ?_
                       | exact Nat.le_of_ble_eq_true rfl)
                     done)
                  | (skip
                     refine to_force [true, false, false, false, false, false, false, false, false, false, false, false, false, true, false, false, false, true] ?_
                     conv => whnf
                     refine to_swap 10 17 [true, false, false, false, false, false, false, false, false, false, true, false, false, true] _ _ rfl rfl (by decide) (Nat.zero_le _) (Nat.zero_le _) ?_
                     refine to_force [true, false, false, false, false, false, false, false, false, false, true, false, false, true] ?_
                     conv => whnf
                     refine to_swap 11 13 [true, false, false, false, false, false, false, false, false, false, true, true] _ _ rfl rfl (by decide) (Nat.zero_le _) (Nat.zero_le _) ?_
                     refine to_force [true, false, false, false, false, false, false, false, false, false, true, true] ?_
                     conv => whnf
                     refine St.le.to ?_
                     conv => whnf
                     repeat' (first
                       | exact trivial
                       | exact rfl
                       | exact le_ints rfl
                       | exact pureL_ii _ _
                       | exact Or.inl (And.intro (pureL_oi _ _) rfl)
                       | refine Or.inr ?_
                       | refine And.intro ?_ ?_
                       | exact Nat.le_of_ble_eq_true rfl)
                     done)
                  | (skip
                     refine to_force [true, false, false, false, false, false, false, true, false, false, false, false, false, false, false, false, false, true] ?_
                     conv => whnf
                     refine to_swap 4 8 [true, false, false, false, false, false, false, true, false, false, false, false, false, false, false, false, false, true] _ _ rfl rfl (by decide) (Nat.zero_le _) (Nat.zero_le _) ?_
                     refine to_force [true, false, false, false, false, false, false, true, false, false, false, false, false, false, false, false, false, true] ?_
                     conv => whnf
                     refine to_swap 5 9 [true, false, false, false, false, false, false, true, false, false, false, false, false, false, false, false, false, true] _ _ rfl rfl (by decide) (Nat.zero_le _) (Nat.zero_le _) ?_
                     refine to_force [true, false, false, false, false, false, false, true, false, false, false, false, false, false, false, false, false, true] ?_
                     conv => whnf
                     refine to_swap 6 10 [true, false, false, false, false, false, false, true, false, false, false, false, false, false, false, false, false, true] _ _ rfl rfl (by decide) (Nat.zero_le _) (Nat.zero_le _) ?_
                     refine to_force [true, false, false, false, false, false, false, true, false, false, false, false, false, false, false, false, false, true] ?_
                     conv => whnf
                     refine to_swap 7 11 [true, false, false, false, false, false, false, false, false, false, false, true, false, false, false, false, false, true] _ _ rfl rfl (by decide) (Nat.zero_le _) (Nat.zero_le _) ?_
                     refine to_force [true, false, false, false, false, false, false, false, false, false, false, true, false, false, false, false, false, true] ?_
                     conv => whnf
                     refine to_swap 8 12 [true, false, false, false, false, false, false, false, false, false, false, true, false, false, false, false, false, true] _ _ rfl rfl (by decide) (Nat.zero_le _) (Nat.zero_le _) ?_
                     refine to_force [true, false, false, false, false, false, false, false, false, false, false, true, false, false, false, false, false, true] ?_
                     conv => whnf
                     refine to_swap 9 13 [true, false, false, false, false, false, false, false, false, false, false, true, false, false, false, false, false, true] _ _ rfl rfl (by decide) (Nat.zero_le _) (Nat.zero_le _) ?_
                     refine to_force [true, false, false, false, false, false, false, false, false, false, false, true, false, false, false, false, false, true] ?_
                     conv => whnf
                     refine to_swap 10 11 [true, false, false, false, false, false, false, false, false, false, true, false, false, false, false, false, false, true] _ _ rfl rfl (by decide) (Nat.zero_le _) (Nat.zero_le _) ?_
                     refine to_force [true, false, false, false, false, false, false, false, false, false, true, false, false, false, false, false, false, true] ?_
                     conv => whnf
                     refine to_swap 11 17 [true, false, false, false, false, false, false, false, false, false, true, true] _ _ rfl rfl (by decide) (Nat.zero_le _) (Nat.zero_le _) ?_
                     refine to_force [true, false, false, false, false, false, false, false, false, false, true, true] ?_
                     conv => whnf
                     refine St.le.to ?_
                     conv => whnf
                     repeat' (first
                       | exact trivial
                       | exact rfl
                       | exact le_ints rfl
                       | exact pureL_ii _ _
                       | exact Or.inl (And.intro (pureL_oi _ _) rfl)
                       | refine Or.inr ?_
                       | refine And.intro ?_ ?_
                       | exact Nat.le_of_ble_eq_true rfl)
                     done)
                  | (skip
                     refine to_force [true, false, false, false, false, false, false, true, false, false, false, true] ?_
                     conv => whnf
                     refine to_swap 4 12 [true, false, false, false, false, false, false, true, false, false, false, true] _ _ rfl rfl (by decide) (Nat.zero_le _) (Nat.zero_le _) ?_
                     refine to_force [true, false, false, false, false, false, false, true, false, false, false, true] ?_
                     conv => whnf
                     refine to_swap 5 13 [true, false, false, false, false, false, false, true, false, false, false, true] _ _ rfl rfl (by decide) (Nat.zero_le _) (Nat.zero_le _) ?_
                     refine to_force [true, false, false, false, false, false, false, true, false, false, false, true] ?_
                     conv => whnf
                     refine to_swap 6 14 [true, false, false, false, false, false, false, true, false, false, false, true] _ _ rfl rfl (by decide) (Nat.zero_le _) (Nat.zero_le _) ?_
                     refine to_force [true, false, false, false, false, false, false, true, false, false, false, true] ?_
                     conv => whnf
                     refine to_swap 7 15 [true, false, false, false, false, false, false, false, false, false, false, true, false, false, false, true] _ _ rfl rfl (by decide) (Nat.zero_le _) (Nat.zero_le _) ?_
                     refine to_force [true, false, false, false, false, false, false, false, false, false, false, true, false, false, false, true] ?_
                     conv => whnf
                     refine to_swap 8 16 [true, false, false, false, false, false, false, false, false, false, false, true, false, false, false, true] _ _ rfl rfl (by decide) (Nat.zero_le _) (Nat.zero_le _) ?_
                     refine to_force [true, false, false, false, false, false, false, false, false, false, false, true, false, false, false, true] ?_
                     conv => whnf
                     refine to_swap 9 17 [true, false, false, false, false, false, false, false, false, false, false, true, false, false, false, true] _ _ rfl rfl (by decide) (Nat.zero_le _) (Nat.zero_le _) ?_
                     refine to_force [true, false, false, false, false, false, false, false, false, false, false, true, false, false, false, true] ?_
                     conv => whnf
                     refine to_swap 10 15 [true, false, false, false, false, false, false, false, false, false, true, true] _ _ rfl rfl (by decide) (Nat.zero_le _) (Nat.zero_le _) ?_
                     refine to_force [true, false, false, false, false, false, false, false, false, false, true, true] ?_
                     conv => whnf
                     refine St.le.to ?_
                     conv => whnf
                     repeat' (first
                       | exact trivial
                       | exact rfl
                       | exact le_ints rfl
                       | exact pureL_ii _ _
                       | exact Or.inl (And.intro (pureL_oi _ _) rfl)
                       | refine Or.inr ?_
                       | refine And.intro ?_ ?_
                       | exact Nat.le_of_ble_eq_true rfl)
                     done)
                  | (skip
                     refine to_force [true, false, false, false, false, false, false, true, false, false, false, false, false, false, false, false, false, true] ?_
                     conv => whnf
                     refine to_swap 4 8 [true, false, false, false, false, false, false, true, false, false, false, false, false, false, false, false, false, true] _ _ rfl rfl (by decide) (Nat.zero_le _) (Nat.zero_le _) ?_
                     refine to_force [true, false, false, false, false, false, false, true, false, false, false, false, false, false, false, false, false, true] ?_
                     conv => whnf
                     refine to_swap 5 9 [true, false, false, false, false, false, false, true, false, false, false, false, false, false, false, false, false, true] _ _ rfl rfl (by decide) (Nat.zero_le _) (Nat.zero_le _) ?_
                     refine to_force [true, false, false, false, false, false, false, true, false, false, false, false, false, false, false, false, false, true] ?_
                     conv => whnf
                     refine to_swap 6 10 [true, false, false, false, false, false, false, true, false, false, false, false, false, false, false, false, false, true] _ _ rfl rfl (by decide) (Nat.zero_le _) (Nat.zero_le _) ?_
                     refine to_force [true, false, false, false, false, false, false, true, false, false, false, false, false, false, false, false, false, true] ?_
                     conv => whnf
                     refine to_swap 7 11 [true, false, false, false, false, false, false, false, false, false, false, true, false, false, false, false, false, true] _ _ rfl rfl (by decide) (Nat.zero_le _) (Nat.zero_le _) ?_
                     refine to_force [true, false, false, false, false, false, false, false, false, false, false, true, false, false, false, false, false, true] ?_
                     conv => whnf
                     refine to_swap 8 12 [true, false, false, false, false, false, false, false, false, false, false, true, false, false, false, false, false, true] _ _ rfl rfl (by decide) (Nat.zero_le _) (Nat.zero_le _) ?_
                     refine to_force [true, false, false, false, false, false, false, false, false, false, false, true, false, false, false, false, false, true] ?_
                     conv => whnf
                     refine to_swap 9 13 [true, false, false, false, false, false, false, false, false, false, false, true, false, false, false, false, false, true] _ _ rfl rfl (by decide) (Nat.zero_le _) (Nat.zero_le _) ?_
                     refine to_force [true, false, false, false, false, false, false, false, false, false, false, true, false, false, false, false, false, true] ?_
                     conv => whnf
                     refine to_swap 10 17 [true, false, false, false, false, false, false, false, false, false, true, true] _ _ rfl rfl (by decide) (Nat.zero_le _) (Nat.zero_le _) ?_
                     refine to_force [true, false, false, false, false, false, false, false, false, false, true, true] ?_
                     conv => whnf
                     refine St.le.to ?_
                     conv => whnf
                     repeat' (first
                       | exact trivial
                       | exact rfl
                       | exact le_ints rfl
                       | exact pureL_ii _ _
                       | exact Or.inl (And.intro (pureL_oi _ _) rfl)
                       | refine Or.inr ?_
                       | refine And.intro ?_ ?_
                       | exact Nat.le_of_ble_eq_true rfl)
                     done)
                  | (skip
                     refine to_force [true, false, false, false, false, false, false, true, false, false, false, true] ?_
                     conv => whnf
                     refine to_swap 4 12 [true, false, false, false, false, false, false, true, false, false, false, true] _ _ rfl rfl (by decide) (Nat.zero_le _) (Nat.zero_le _) ?_
                     refine to_force [true, false, false, false, false, false, false, true, false, false, false, true] ?_
                     conv => whnf
                     refine to_swap 5 13 [true, false, false, false, false, false, false, true, false, false, false, true] _ _ rfl rfl (by decide) (Nat.zero_le _) (Nat.zero_le _) ?_
                     refine to_force [true, false, false, false, false, false, false, true, false, false, false, true] ?_
                     conv => whnf
                     refine to_swap 6 14 [true, false, false, false, false, false, false, true, false, false, false, true] _ _ rfl rfl (by decide) (Nat.zero_le _) (Nat.zero_le _) ?_
                     refine to_force [true, false, false, false, false, false, false, true, false, false, false, true] ?_
                     conv => whnf
                     refine to_swap 7 15 [true, false, false, false, false, false, false, false, false, false, false, true, false, false, false, true] _ _ rfl rfl (by decide) (Nat.zero_le _) (Nat.zero_le _) ?_
                     refine to_force [true, false, false, false, false, false, false, false, false, false, false, true, false, false, false, true] ?_
                     conv => whnf
                     refine to_swap 8 16 [true, false, false, false, false, false, false, false, false, false, false, true, false, false, false, true] _ _ rfl rfl (by decide) (Nat.zero_le _) (Nat.zero_le _) ?_
                     refine to_force [true, false, false, false, false, false, false, false, false, false, false, true, false, false, false, true] ?_
                     conv => whnf
                     refine to_swap 9 17 [true, false, false, false, false, false, false, false, false, false, false, true, false, false, false, true] _ _ rfl rfl (by decide) (Nat.zero_le _) (Nat.zero_le _) ?_
                     refine to_force [true, false, false, false, false, false, false, false, false, false, false, true, false, false, false, true] ?_
                     conv => whnf
                     refine to_swap 10 11 [true, false, false, false, false, false, false, false, false, false, true, false, false, false, false, true] _ _ rfl rfl (by decide) (Nat.zero_le _) (Nat.zero_le _) ?_
                     refine to_force [true, false, false, false, false, false, false, false, false, false, true, false, false, false, false, true] ?_
                     conv => whnf
                     refine to_swap 11 15 [true, false, false, false, false, false, false, false, false, false, true, true] _ _ rfl rfl (by decide) (Nat.zero_le _) (Nat.zero_le _) ?_
                     refine to_force [true, false, false, false, false, false, false, false, false, false, true, true] ?_
                     conv => whnf
                     refine St.le.to ?_
                     conv => whnf
                     repeat' (first
                       | exact trivial
                       | exact rfl
                       | exact le_ints rfl
                       | exact pureL_ii _ _
                       | exact Or.inl (And.intro (pureL_oi _ _) rfl)
                       | refine Or.inr ?_
                       | refine And.intro ?_ ?_
                       | exact Nat.le_of_ble_eq_true rfl)
                     done)
            · conv => whnf
              repeat' (first
                | (refine fun (_ : _ ≤ maxLen) => ?_; conv => whnf)
                | (refine And.intro (by omega) ?_; conv => whnf)
                | (refine append_same ?_; conv => whnf)
                | (refine get_ii_n (by omega) ?_; conv => whnf)
                | refine aIf_not ?_
                | (refine aIf_dec (fun _ => ?_) (fun _ => ?_) <;> conv => whnf))
              all_goals (first | (exfalso; omega) | contradiction | skip)
              exact retS rfl (int_eq (odC_f fun h => hp2 (h.2.1 _ hlt).1).symm)
          · have he : i = ps.length := by omega
            conv => whnf
            repeat' (first
              | (refine fun (_ : _ ≤ maxLen) => ?_; conv => whnf)
              | (refine And.intro (by omega) ?_; conv => whnf)
              | (refine append_same ?_; conv => whnf)
              | (refine get_ii_n (by omega) ?_; conv => whnf)
              | refine aIf_not ?_
              | (refine aIf_dec (fun _ => ?_) (fun _ => ?_) <;> conv => whnf))
            all_goals (first | (exfalso; omega) | contradiction | skip)
            exact retS rfl (int_eq ((congrArg (orC (zs, fs, o) ps) he).trans (odC_t (odP_of (S := (zs, fs, o)) hs hlen (he ▸ hP))).symm))
    · conv => whnf
      repeat' (first
        | (refine aIf_t ?_; conv => whnf)
        | (refine aIf_f ?_; conv => whnf)
        | (refine fun (_ : _ ≤ maxLen) => ?_; conv => whnf)
        | (refine aGet_in rfl ?_; conv => whnf)
        | (refine load_same ?_; conv => whnf)
        | (refine And.intro rfl (And.intro (List.cons_ne_nil _ _) ?_); conv => whnf)
        | (refine And.intro (Nat.le_of_ble_eq_true rfl) ?_; conv => whnf)
        | (refine callG_t ?_; conv => whnf)
        | (refine append_same ?_; conv => whnf)
        | (refine And.intro (pureL_ii _ _) ?_; conv => whnf)
        | (refine iSumOk_call trivial ?_; conv => whnf)
        | (refine takeN_in ?_; conv => whnf)
        | (refine And.intro (pureL_ints _ _) ?_; conv => whnf)
        | (refine And.intro (by kernel_rfl) ?_; conv => whnf)
        | refine aIf_eqf ?_
        | refine aIf_not ?_
        | (refine aIf_dec (fun _ => ?_) (fun _ => ?_) <;> conv => whnf))
      all_goals (first | (exfalso; omega) | contradiction | skip)
      exact retS rfl (int_eq (odC_f (S := (zs, fs, o)) fun h => hlen (odP_len h)).symm)
  · conv => whnf
    repeat' (first
      | (refine aIf_t ?_; conv => whnf)
      | (refine aIf_f ?_; conv => whnf)
      | (refine fun (_ : _ ≤ maxLen) => ?_; conv => whnf)
      | (refine aGet_in rfl ?_; conv => whnf)
      | (refine load_same ?_; conv => whnf)
      | (refine And.intro rfl (And.intro (List.cons_ne_nil _ _) ?_); conv => whnf)
      | (refine And.intro (Nat.le_of_ble_eq_true rfl) ?_; conv => whnf)
      | (refine callG_t ?_; conv => whnf)
      | (refine append_same ?_; conv => whnf)
      | (refine And.intro (pureL_ii _ _) ?_; conv => whnf)
      | (refine iSumOk_call trivial ?_; conv => whnf)
      | (refine takeN_in ?_; conv => whnf)
      | (refine And.intro (pureL_ints _ _) ?_; conv => whnf)
      | (refine And.intro (by kernel_rfl) ?_; conv => whnf)
      | refine aIf_eqf ?_
      | refine aIf_not ?_
      | (refine aIf_dec (fun _ => ?_) (fun _ => ?_) <;> conv => whnf))
    all_goals (first | (exfalso; omega) | contradiction | skip)
    exact retS rfl (int_eq (odC_f (S := (zs, fs, o)) fun h => hs h.1).symm)
end Go.Proofs.Ytmgggbgejdkamaa
