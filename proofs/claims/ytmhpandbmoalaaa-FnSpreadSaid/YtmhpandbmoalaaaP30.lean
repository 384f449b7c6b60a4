/- FnSpread: the law. -/
import Derived.Test.YtmhpandbmoalaaaP3
import Derived.Test.YtmhpandbmoalaaaP23
import Derived.Test.YtmhpandbmoalaaaP27
namespace Go.Proofs.Ytmhpandbmoalaaa
open Go.RowKit Go.Am Go.WideShapes Go.ChangeShapes
attribute [local irreducible] aGet aIf aLoop aCall aCallQ RetB NextB CallB CallG aCut aSet aAppend

set_option maxHeartbeats 4000000 in
set_option maxRecDepth 10000 in
theorem law_FnSpread : Sound Try.prog 4 (fnS (ι := List Int) (fun bs => [.sl 1 bs.length (bs.map (.int .u8))]) (fun bs => bytesOk bs) (fun _ => .bool true)) := by
  refine sound_of Try.func4 rfl (enters_of Try.func4 (by kernel_rfl) (by kernel_rfl)) ?_
  intro (bs : List Int) (hb : bytesOk bs)
  conv => whnf
  repeat' (first
    | (refine aIf_t ?_; conv => whnf)
    | (refine aIf_f ?_; conv => whnf)
    | (refine fun (_ : _ ≤ maxLen) => ?_; conv => whnf)
    | (refine get_nat (by omega) ?_; conv => whnf)
    | (refine get_int (by omega) ?_; conv => whnf)
    | (refine get_nat0 (by omega) ?_; conv => whnf)
    | (refine get_int0 (by omega) ?_; conv => whnf)
    | (refine aGet_in rfl ?_; conv => whnf)
    | (refine And.intro (And.intro rfl (And.intro (by kernel_rfl) (And.intro rfl (by kernel_rfl)))) (And.intro (And.intro (by omega) (And.intro (bytes_le (b := 8) rfl (by omega)) (by omega))) ?_); conv => whnf)
    | (refine And.intro (by omega) ?_; conv => whnf)
    | (refine And.intro (by rw [List.length_map]; omega) ?_; conv => whnf)
    | (refine And.intro rfl (And.intro (List.cons_ne_nil _ _) ?_); conv => whnf)
    | (refine And.intro (Nat.le_of_ble_eq_true rfl) ?_; conv => whnf)
    | (refine mark_call rfl (by rfl) (by omega) ?_; conv => whnf)
    | (refine pick_call rfl (by assumption) (by omega) (fun _ _ _ _ _ => ?_); conv => whnf)
    | (refine num_call6 rfl rfl (by decide) rfl (by assumption) (by omega) (fun _ _ _ _ => ?_); conv => whnf)
    | (refine l1Draw_call rfl (by assumption) (by omega) (fun _ _ _ _ => ?_); conv => whnf)
    | (refine l1Any_call rfl (by assumption) (by omega) (fun _ _ _ _ => ?_); conv => whnf)
    | (refine l1Under_call rfl rfl (by decide) rfl (by omega) (by assumption) (by omega) (fun _ _ _ _ => ?_); conv => whnf)
    | (refine callG_t ?_; conv => whnf)
    | (refine And.intro (pureL_ints _ _) ?_; conv => whnf)
    | (refine cut_ints ?_; conv => whnf)
    | (refine cut_marks ?_; conv => whnf)
    | (refine cut_all rfl (scalL_ints _ _) ?_; conv => whnf)
    | (refine cut_all (by simp only [List.length_map]; omega) (scalL_ints _ _) ?_; conv => whnf)
    | (refine in_call ?_; conv => whnf)
    | (refine l40Open_call (by assumption) (fun _ _ => ?_); conv => whnf)
    | (refine drawJoin_call (by assumption) (fun _ _ _ => ?_); conv => whnf)
    | (refine drawSpread_call (by assumption) (fun _ _ _ _ => ?_); conv => whnf)
    | (refine teInts_call ?_; conv => whnf)
    | (refine sShapeOk_call ?_; conv => whnf)
    | (refine iShapeOk_call ?_; conv => whnf)
    | (refine toIntS_call (by omega) ?_; conv => whnf)
    | (refine eqIntS_call ?_; conv => whnf)
    | (refine in_callQ ?_; conv => whnf)
    | (refine l1Count_call ?_; conv => whnf)
    | (refine placeOk_call ?_; conv => whnf)
    | (refine l1Index_call (by assumption) ?_; conv => whnf)
    | (refine sIndexAt_call ?_; conv => whnf)
    | (refine iIndexAt_call ?_; conv => whnf)
    | (refine sCountOf_call ?_; conv => whnf)
    | (refine iCountOf_call ?_; conv => whnf)
    | (refine l1Strides_call (by omega) ?_; conv => whnf)
    | (refine append_int rfl rfl (by first | rfl | (simp only [List.length_take, turned_length]; omega)) (by omega) (Nat.le_of_ble_eq_true rfl) ?_; conv => whnf)
    | (refine append_int3 rfl rfl rfl rfl (by omega) (Nat.le_of_ble_eq_true rfl) ?_; conv => whnf)
    | (refine l1Turn_call (by assumption) ?_; conv => whnf)
    | (refine l1Place_call (by assumption) ?_; conv => whnf)
    | (refine sPlaceAt_call (by omega) ?_; conv => whnf)
    | (refine iPlaceAt_call (by omega) ?_; conv => whnf)
    | (refine sizeBefore_call (by omega) ?_; conv => whnf)
    | (refine l1Axis_call (by omega) ?_; conv => whnf)
    | (refine l1Join_call (And.intro (by assumption) (by assumption)) ?_; conv => whnf)
    | (refine sJoin_call ?_; conv => whnf)
    | (refine iJoin_call ?_; conv => whnf)
    | (refine l1Same_call ?_; conv => whnf)
    | (refine l1Index_n (by omega) (by omega) ?_; conv => whnf)
    | (refine sameNums_call ?_; conv => whnf)
    | (refine l1Spread_call (And.intro (by assumption) (by assumption)) ?_; conv => whnf)
    | (refine sSpreadIndex_call (by omega) ?_; conv => whnf)
    | (refine iSpreadIndex_call (by omega) ?_; conv => whnf)
    | (refine sTurnShape_call (by omega) ?_; conv => whnf)
    | (refine iTurnShape_call (by omega) ?_; conv => whnf)
    | (refine sBackTurn_call (by omega) ?_; conv => whnf)
    | (refine iBackTurn_call (by omega) ?_; conv => whnf)
    | (refine sStridesOf_call (by omega) ?_; conv => whnf)
    | (refine iStridesOf_call (by omega) ?_; conv => whnf)
    | (refine And.intro rfl (And.intro rfl (And.intro (by first | omega | (rw [List.length_map]; omega)) ?_)); conv => whnf)
    | (refine set_nat ?_ (by omega); conv => whnf)
    | (refine set_int ?_ (by omega); conv => whnf)
    | (refine set_bool ?_ (by omega); conv => whnf)
    | (refine set_force ?_; conv => whnf)
    | (refine get_bool0 (by omega) ?_; conv => whnf)
    | (refine And.intro (And.intro rfl (And.intro (by kernel_rfl) (And.intro rfl (by kernel_rfl)))) (And.intro (And.intro (by omega) (And.intro (bytes_le (b := 1) rfl (by omega)) (by omega))) ?_); conv => whnf)
    | (refine sTurnOk_call ?_; conv => whnf)
    | (refine held_marks_call rfl (by omega) ?_; conv => whnf)
    | (refine iTurnOk_call ?_; conv => whnf)
    | (refine And.intro (And.intro (by kernel_rfl) (And.intro rfl (Nat.le_of_ble_eq_true rfl))) ?_; conv => whnf)
    | (refine And.intro (And.intro (by kernel_rfl) (by kernel_rfl)) ?_; conv => whnf)
    | (refine And.intro (by kernel_rfl) ?_; conv => whnf)
    | refine aIf_eqt ?_
    | refine aIf_eqf ?_
    | refine aIf_not ?_
    | (refine aIf_bself ?_; conv => whnf)
    | (refine aIf_beself ?_; conv => whnf)
    | (refine aIf_iself ?_; conv => whnf)
    | (refine aIf_decself ?_; conv => whnf)
    | (refine aIf_dec (fun _ => ?_) (fun _ => ?_) <;> conv => whnf)
    | (refine aIf_beq (fun _ => ?_) (fun _ => ?_) <;> conv => whnf)
    | (refine aIf_bne (fun _ => ?_) (fun _ => ?_) <;> conv => whnf)
    | (refine aIf_bbne (fun _ => ?_) (fun _ => ?_) <;> conv => whnf)
    | (refine aIf_bbeq (fun _ => ?_) (fun _ => ?_) <;> conv => whnf)
    | (refine aIf_in (fun _ => ?_) (fun _ => ?_) <;> conv => whnf))
  · exact retS rfl rfl
  · rename_i xs ys hxy _ _ hok
    obtain ⟨⟨hlx, hly⟩, -, -, hf⟩ := hxy
    obtain ⟨f1, f2, f3, f4, f5⟩ := hf hok
    have hw : IntKind.i64.wrap (countOf xs * countOf ys) = countOf xs * countOf ys := IntWalk.i64_in _ (by omega)
    have hj := jL_le xs ys
    refine loop_in (ι := Nat) (fun k => ⟨[.un, .un, .un, .ref 0 1 0 xs.length, .ref 1 1 0 ys.length, .ref 2 2 0 (jL xs ys).length, .un, .un, .un, .un, .un, .ref 5 7 0 (jL xs (jL xs ys)).length, .un, .int .i64 k, .un, .un, .un, .un, .un, .un, .un, .un, .un, .un, .un, .un, .un, .un, .un, .un, .un, .un, .un, .un, .un, .un, .un, .un, .un, .un, .un, .un, .un, .un, .un, .un, .un, .un, .un, .un, .un, .un, .un, .un, .un, .un, .un, .un, .un, .un, .un, .un, .un, .un, .un, .un, .un, .un, .un, .un, .un, .un, .un, .un, .un, .un, .un, .un, .un, .un, .un, .un, .un, .un, .un, .un, .un, .un, .un, .un, .un, .un, .un, .un, .un, .un, .un, .un, .un, .un, .un, .un, .un, .un, .un, .un, .un, .un, .un, .un, .un, .un, .un, .un, .un, .un, .un, .un, .un, .un, .un, .un, .un, .un, .un, .un], [⟨1, 3, 1, xs.map (.int .i64)⟩, ⟨1, 3, 1, ys.map (.int .i64)⟩, ⟨2, 3, 1, (jL xs ys).map (.int .i64)⟩, ⟨3, 3, 1, (jL xs ys).map (.int .i64)⟩, ⟨4, 3, 1, (jL ys xs).map (.int .i64)⟩, ⟨7, 3, 1, (jL xs (jL xs ys)).map (.int .i64)⟩], 8, 0⟩)
      (fun k => (k : Int) ≤ countOf (jL xs ys)) (fun k => (countOf (jL xs ys)).toNat - k) 0 f3.1 ?_ ?_
    · repeat' (first
        | exact trivial
        | exact rfl
        | exact pureL_ints _ _
        | exact pureL_bools _
        | exact Or.inl (And.intro rfl rfl)
        | exact Or.inl (And.intro (pureL_box _ _) rfl)
        | exact le_ints rfl
        | exact le_ints (rep_ints _ _)
        | exact le_bools rfl
        | exact le_bools (rep_bools _)
        | refine le_ints ?_
        | refine And.intro ?_ ?_
        | exact Nat.le_of_ble_eq_true rfl
        | exact Nat.zero_le _
        | exact int_eq (by assumption)
        | exact int_eq (by omega)
        | exact int_eq (Int.add_zero _).symm
        | exact List.length_append
        | exact int_eq (by rw [IntWalk.i64_in _ (by omega)] <;> omega))
    · intro k hk
      have hk : (k : Int) ≤ countOf (jL xs ys) := hk
      have hfk := f5 k (by omega)
      conv => whnf
      repeat' (first
        | (refine aIf_t ?_; conv => whnf)
        | (refine aIf_f ?_; conv => whnf)
        | (refine fun (_ : _ ≤ maxLen) => ?_; conv => whnf)
        | (refine get_nat (by omega) ?_; conv => whnf)
        | (refine get_int (by omega) ?_; conv => whnf)
        | (refine get_nat0 (by omega) ?_; conv => whnf)
        | (refine get_int0 (by omega) ?_; conv => whnf)
        | (refine aGet_in rfl ?_; conv => whnf)
        | (refine And.intro (And.intro rfl (And.intro (by kernel_rfl) (And.intro rfl (by kernel_rfl)))) (And.intro (And.intro (by omega) (And.intro (bytes_le (b := 8) rfl (by omega)) (by omega))) ?_); conv => whnf)
        | (refine And.intro (by omega) ?_; conv => whnf)
        | (refine And.intro (by rw [List.length_map]; omega) ?_; conv => whnf)
        | (refine And.intro rfl (And.intro (List.cons_ne_nil _ _) ?_); conv => whnf)
        | (refine And.intro (Nat.le_of_ble_eq_true rfl) ?_; conv => whnf)
        | (refine mark_call rfl (by rfl) (by omega) ?_; conv => whnf)
        | (refine pick_call rfl (by assumption) (by omega) (fun _ _ _ _ _ => ?_); conv => whnf)
        | (refine num_call6 rfl rfl (by decide) rfl (by assumption) (by omega) (fun _ _ _ _ => ?_); conv => whnf)
        | (refine l1Draw_call rfl (by assumption) (by omega) (fun _ _ _ _ => ?_); conv => whnf)
        | (refine l1Any_call rfl (by assumption) (by omega) (fun _ _ _ _ => ?_); conv => whnf)
        | (refine l1Under_call rfl rfl (by decide) rfl (by omega) (by assumption) (by omega) (fun _ _ _ _ => ?_); conv => whnf)
        | (refine callG_t ?_; conv => whnf)
        | (refine And.intro (pureL_ints _ _) ?_; conv => whnf)
        | (refine cut_ints ?_; conv => whnf)
        | (refine cut_marks ?_; conv => whnf)
        | (refine cut_all rfl (scalL_ints _ _) ?_; conv => whnf)
        | (refine cut_all (by simp only [List.length_map]; omega) (scalL_ints _ _) ?_; conv => whnf)
        | (refine in_call ?_; conv => whnf)
        | (refine l40Open_call (by assumption) (fun _ _ => ?_); conv => whnf)
        | (refine drawJoin_call (by assumption) (fun _ _ _ => ?_); conv => whnf)
        | (refine drawSpread_call (by assumption) (fun _ _ _ _ => ?_); conv => whnf)
        | (refine teInts_call ?_; conv => whnf)
        | (refine sShapeOk_call ?_; conv => whnf)
        | (refine iShapeOk_call ?_; conv => whnf)
        | (refine toIntS_call (by omega) ?_; conv => whnf)
        | (refine eqIntS_call ?_; conv => whnf)
        | (refine in_callQ ?_; conv => whnf)
        | (refine l1Count_call ?_; conv => whnf)
        | (refine placeOk_call ?_; conv => whnf)
        | (refine l1Index_call (by assumption) ?_; conv => whnf)
        | (refine sIndexAt_call ?_; conv => whnf)
        | (refine iIndexAt_call ?_; conv => whnf)
        | (refine sCountOf_call ?_; conv => whnf)
        | (refine iCountOf_call ?_; conv => whnf)
        | (refine l1Strides_call (by omega) ?_; conv => whnf)
        | (refine append_int rfl rfl (by first | rfl | (simp only [List.length_take, turned_length]; omega)) (by omega) (Nat.le_of_ble_eq_true rfl) ?_; conv => whnf)
        | (refine append_int3 rfl rfl rfl rfl (by omega) (Nat.le_of_ble_eq_true rfl) ?_; conv => whnf)
        | (refine l1Turn_call (by assumption) ?_; conv => whnf)
        | (refine l1Place_call (by assumption) ?_; conv => whnf)
        | (refine sPlaceAt_call (by omega) ?_; conv => whnf)
        | (refine iPlaceAt_call (by omega) ?_; conv => whnf)
        | (refine sizeBefore_call (by omega) ?_; conv => whnf)
        | (refine l1Axis_call (by omega) ?_; conv => whnf)
        | (refine l1Join_call (And.intro (by assumption) (by assumption)) ?_; conv => whnf)
        | (refine sJoin_call ?_; conv => whnf)
        | (refine iJoin_call ?_; conv => whnf)
        | (refine l1Same_call ?_; conv => whnf)
        | (refine l1Index_n (by omega) (by omega) ?_; conv => whnf)
        | (refine sameNums_call ?_; conv => whnf)
        | (refine l1Spread_call (And.intro (by assumption) (by assumption)) ?_; conv => whnf)
        | (refine sSpreadIndex_call (by omega) ?_; conv => whnf)
        | (refine iSpreadIndex_call (by omega) ?_; conv => whnf)
        | (refine sTurnShape_call (by omega) ?_; conv => whnf)
        | (refine iTurnShape_call (by omega) ?_; conv => whnf)
        | (refine sBackTurn_call (by omega) ?_; conv => whnf)
        | (refine iBackTurn_call (by omega) ?_; conv => whnf)
        | (refine sStridesOf_call (by omega) ?_; conv => whnf)
        | (refine iStridesOf_call (by omega) ?_; conv => whnf)
        | (refine And.intro rfl (And.intro rfl (And.intro (by first | omega | (rw [List.length_map]; omega)) ?_)); conv => whnf)
        | (refine set_nat ?_ (by omega); conv => whnf)
        | (refine set_int ?_ (by omega); conv => whnf)
        | (refine set_bool ?_ (by omega); conv => whnf)
        | (refine set_force ?_; conv => whnf)
        | (refine get_bool0 (by omega) ?_; conv => whnf)
        | (refine And.intro (And.intro rfl (And.intro (by kernel_rfl) (And.intro rfl (by kernel_rfl)))) (And.intro (And.intro (by omega) (And.intro (bytes_le (b := 1) rfl (by omega)) (by omega))) ?_); conv => whnf)
        | (refine sTurnOk_call ?_; conv => whnf)
        | (refine held_marks_call rfl (by omega) ?_; conv => whnf)
        | (refine iTurnOk_call ?_; conv => whnf)
        | (refine And.intro (And.intro (by kernel_rfl) (And.intro rfl (Nat.le_of_ble_eq_true rfl))) ?_; conv => whnf)
        | (refine And.intro (And.intro (by kernel_rfl) (by kernel_rfl)) ?_; conv => whnf)
        | (refine And.intro (by kernel_rfl) ?_; conv => whnf)
        | refine aIf_eqt ?_
        | refine aIf_eqf ?_
        | refine aIf_not ?_
        | (refine aIf_bself ?_; conv => whnf)
        | (refine aIf_beself ?_; conv => whnf)
        | (refine aIf_iself ?_; conv => whnf)
        | (refine aIf_decself ?_; conv => whnf)
        | (refine aIf_dec (fun _ => ?_) (fun _ => ?_) <;> conv => whnf)
        | (refine aIf_beq (fun _ => ?_) (fun _ => ?_) <;> conv => whnf)
        | (refine aIf_bne (fun _ => ?_) (fun _ => ?_) <;> conv => whnf)
        | (refine aIf_bbne (fun _ => ?_) (fun _ => ?_) <;> conv => whnf)
        | (refine aIf_bbeq (fun _ => ?_) (fun _ => ?_) <;> conv => whnf)
        | (refine aIf_in (fun _ => ?_) (fun _ => ?_) <;> conv => whnf))
      all_goals (first
        | (exfalso; omega)
        | exact absurd f1 (by assumption)
        | exact retS rfl (congrArg AV.bool (decide_eq_true (by rw [hw]; omega)))
        | skip)
      refine next_in (k + 1) (show (countOf (jL xs ys)).toNat - (k + 1) < (countOf (jL xs ys)).toNat - k by omega) (show ((k + 1 : Nat) : Int) ≤ countOf (jL xs ys) by omega) ?_
      repeat' (first
        | exact trivial
        | exact rfl
        | exact pureL_ints _ _
        | exact pureL_bools _
        | exact Or.inl (And.intro rfl rfl)
        | exact Or.inl (And.intro (pureL_box _ _) rfl)
        | exact le_ints rfl
        | exact le_ints (rep_ints _ _)
        | exact le_bools rfl
        | exact le_bools (rep_bools _)
        | refine le_ints ?_
        | refine And.intro ?_ ?_
        | exact Nat.le_of_ble_eq_true rfl
        | exact Nat.zero_le _
        | exact int_eq (by assumption)
        | exact int_eq (by omega)
        | exact int_eq (Int.add_zero _).symm
        | exact List.length_append
        | exact int_eq (by rw [IntWalk.i64_in _ (by omega)] <;> omega))
  · rename_i hxy _ _ h _
    refine retS rfl (congrArg AV.bool ?_)
    rw [hxy.2.2.1 h]; rfl
  · rename_i hxy _ h
    exact absurd hxy.2.1.2 h
  · rename_i hxy h
    exact absurd hxy.2.1.1 h
end Go.Proofs.Ytmhpandbmoalaaa
