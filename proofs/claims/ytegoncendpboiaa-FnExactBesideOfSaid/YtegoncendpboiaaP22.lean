/- SpreadIndex. -/
import Derived.Test.YtegoncendpboiaaP6
import Derived.Test.YtegoncendpboiaaP20
namespace Go.Proofs.Ytegoncendpboiaa
set_option maxRecDepth 20000
open Go.RowKit Go.Am
attribute [local irreducible] aPlan aGet aIf aLoop aCall RetB NextB CallB CallG aCut aSet aAppend

def sSame : CSpec := fnS (ι := Nat × List Int × Nat × List Int) (fun | (c, xs, d, ys) => [.sl c xs.length (xs.map (.int .i64)), .sl d ys.length (ys.map (.int .i64))]) (fun _ => True) (fun | (_, xs, _, ys) => .bool (decide (xs = ys)))
set_option maxRecDepth 10000 in
theorem l1Same_sound : Sound Try.prog 113 sSame := by
  refine sound_of Try.func113 rfl (enters_of Try.func113 (by kernel_rfl) (by kernel_rfl)) ?_
  rintro ⟨c, xs, d, ys⟩ -
  conv => whnf
  repeat' (first
    | (refine plan_in (id := 6) [0, 1, 2, 3, 4, 5, 6, 7, 8] (by kernel_rfl) (by kernel_rfl) ?_; conv => whnf)
    | (refine aIf_t ?_; conv => whnf)
    | (refine aIf_f ?_; conv => whnf)
    | (refine fun (_ : _ ≤ maxLen) => ?_; conv => whnf)
    | (refine get_nat0 (by omega) ?_; conv => whnf)
    | (refine get_int0 (by omega) ?_; conv => whnf)
    | (refine get_nat (by omega) ?_; conv => whnf)
    | (refine get_int (by omega) ?_; conv => whnf)
    | (refine aGet_in rfl ?_; conv => whnf)
    | (refine And.intro (And.intro (Int.le_refl _) (And.intro (by kernel_rfl) (And.intro rfl (by kernel_rfl)))) (And.intro (And.intro (by omega) (And.intro (bytes_le (b := 8) rfl (by omega)) (by omega))) ?_); conv => whnf)
    | (refine And.intro (by omega) ?_; conv => whnf)
    | (refine load_same ?_; conv => whnf)
    | (refine And.intro (by rw [List.length_map]; omega) ?_; conv => whnf)
    | (refine And.intro rfl (And.intro (List.cons_ne_nil _ _) ?_); conv => whnf)
    | (refine And.intro (Nat.le_of_ble_eq_true rfl) ?_; conv => whnf)
    | (refine callG_t ?_; conv => whnf)
    | (refine And.intro (And.intro (Int.le_refl _) (And.intro (by kernel_rfl) (And.intro rfl (by kernel_rfl)))) (And.intro (And.intro (by omega) (And.intro (bytes_le (b := 24) rfl (by omega)) (by omega))) ?_); conv => whnf)
    | (refine And.intro (And.intro (Int.le_refl _) (And.intro (by kernel_rfl) (And.intro rfl (by kernel_rfl)))) (And.intro (And.intro (by omega) (And.intro (bytes_le (b := 48) rfl (by omega)) (by omega))) ?_); conv => whnf)
    | (refine takeN_in ?_; conv => whnf)
    | (refine And.intro (pureL_ints _ _) ?_; conv => whnf)
    | (refine cut_ints ?_; conv => whnf)
    | (refine cut_all rfl (scalL_ints _ _) ?_; conv => whnf)
    | (refine cut_all (by simp only [List.length_map]; omega) (scalL_ints _ _) ?_; conv => whnf)
    | (refine And.intro rfl (And.intro rfl (And.intro (by first | omega | (rw [List.length_map]; omega)) ?_)); conv => whnf)
    | (refine set_nat ?_ (by omega); conv => whnf)
    | (refine set_int ?_ (by omega); conv => whnf)
    | (refine set_bool ?_ (by omega); conv => whnf)
    | (refine set_force ?_; conv => whnf)
    | (refine get_bool0 (by omega) ?_; conv => whnf)
    | (refine And.intro (And.intro (Int.le_refl _) (And.intro (by kernel_rfl) (And.intro rfl (by kernel_rfl)))) (And.intro (And.intro (by omega) (And.intro (bytes_le (b := 1) rfl (by omega)) (by omega))) ?_); conv => whnf)
    | (refine And.intro (And.intro (by kernel_rfl) (And.intro rfl (Nat.le_of_ble_eq_true rfl))) ?_; conv => whnf)
    | (refine And.intro (And.intro (by kernel_rfl) (by kernel_rfl)) ?_; conv => whnf)
    | (refine And.intro (by kernel_rfl) ?_; conv => whnf)
    | (refine aIf_tt (by assumption) ?_; conv => whnf)
    | (refine aIf_ff (by assumption) ?_; conv => whnf)
    | refine aIf_eqt ?_
    | refine aIf_eqf ?_
    | refine aIf_not ?_
    | (refine aIf_bself ?_; conv => whnf)
    | (refine aIf_beself ?_; conv => whnf)
    | (refine aIf_iself ?_; conv => whnf)
    | (refine aIf_decself ?_; conv => whnf)
    | (refine aIf_dec (fun _ => ?_) (fun _ => ?_) <;> conv => whnf)
    | (refine aIf_beq (fun _ => ?_) (fun _ => ?_) <;> conv => whnf)
    | (refine aIf_bne (fun _ => ?_) (fun _ => ?_) <;> conv => whnf)
    | (refine aIf_bbne (fun _ => ?_) (fun _ => ?_) <;> conv => whnf)
    | (refine aIf_bbeq (fun _ => ?_) (fun _ => ?_) <;> conv => whnf)
    | (refine aIf_in (fun _ => ?_) (fun _ => ?_) <;> conv => whnf))
  · have hl : ys.length = xs.length := by omega
    refine loop_in (ι := Nat) (fun k => ⟨[.sl c xs.length (xs.map (.int .i64)), .sl d ys.length (ys.map (.int .i64)), .un, .un, .bool false, .int .i64 k, .un, .un, .un, .un, .un, .un, .un, .un, .un, .un, .un, .un, .un, .un, .un, .un, .un, .un, .un, .un], [], 1, 0⟩)
      (fun k => k ≤ xs.length ∧ ∀ j, j < k → xs.getD j 0 = ys.getD j 0) (fun k => xs.length - k) 0 ⟨Nat.zero_le _, fun j hj => by omega⟩ ?_ ?_
    · repeat' (first
        | exact trivial
        | exact rfl
        | exact pureL_ints _ _
        | exact pureL_bools _
        | exact Or.inl (And.intro rfl rfl)
        | exact le_ints rfl
        | exact le_ints (rep_ints _ _)
        | exact le_bools rfl
        | exact le_bools (rep_bools _)
        | refine le_ints ?_
        | refine Or.inr ?_
        | refine And.intro ?_ ?_
        | exact Nat.le_of_ble_eq_true rfl
        | exact Nat.zero_le _
        | exact int_eq (by assumption)
        | exact int_eq (by omega)
        | exact int_eq (Int.add_zero _).symm
        | exact List.length_append
        | exact int_eq (by rw [IntWalk.i64_in _ (by omega)] <;> omega))
    · rintro k ⟨hk, hall⟩
      conv => whnf
      repeat' (first
        | (refine plan_in (id := 6) [0, 1, 2, 3, 4, 5, 6, 7, 8] (by kernel_rfl) (by kernel_rfl) ?_; conv => whnf)
        | (refine aIf_t ?_; conv => whnf)
        | (refine aIf_f ?_; conv => whnf)
        | (refine fun (_ : _ ≤ maxLen) => ?_; conv => whnf)
        | (refine get_nat0 (by omega) ?_; conv => whnf)
        | (refine get_int0 (by omega) ?_; conv => whnf)
        | (refine get_nat (by omega) ?_; conv => whnf)
        | (refine get_int (by omega) ?_; conv => whnf)
        | (refine aGet_in rfl ?_; conv => whnf)
        | (refine And.intro (And.intro (Int.le_refl _) (And.intro (by kernel_rfl) (And.intro rfl (by kernel_rfl)))) (And.intro (And.intro (by omega) (And.intro (bytes_le (b := 8) rfl (by omega)) (by omega))) ?_); conv => whnf)
        | (refine And.intro (by omega) ?_; conv => whnf)
        | (refine load_same ?_; conv => whnf)
        | (refine And.intro (by rw [List.length_map]; omega) ?_; conv => whnf)
        | (refine And.intro rfl (And.intro (List.cons_ne_nil _ _) ?_); conv => whnf)
        | (refine And.intro (Nat.le_of_ble_eq_true rfl) ?_; conv => whnf)
        | (refine callG_t ?_; conv => whnf)
        | (refine And.intro (And.intro (Int.le_refl _) (And.intro (by kernel_rfl) (And.intro rfl (by kernel_rfl)))) (And.intro (And.intro (by omega) (And.intro (bytes_le (b := 24) rfl (by omega)) (by omega))) ?_); conv => whnf)
        | (refine And.intro (And.intro (Int.le_refl _) (And.intro (by kernel_rfl) (And.intro rfl (by kernel_rfl)))) (And.intro (And.intro (by omega) (And.intro (bytes_le (b := 48) rfl (by omega)) (by omega))) ?_); conv => whnf)
        | (refine takeN_in ?_; conv => whnf)
        | (refine And.intro (pureL_ints _ _) ?_; conv => whnf)
        | (refine cut_ints ?_; conv => whnf)
        | (refine cut_all rfl (scalL_ints _ _) ?_; conv => whnf)
        | (refine cut_all (by simp only [List.length_map]; omega) (scalL_ints _ _) ?_; conv => whnf)
        | (refine And.intro rfl (And.intro rfl (And.intro (by first | omega | (rw [List.length_map]; omega)) ?_)); conv => whnf)
        | (refine set_nat ?_ (by omega); conv => whnf)
        | (refine set_int ?_ (by omega); conv => whnf)
        | (refine set_bool ?_ (by omega); conv => whnf)
        | (refine set_force ?_; conv => whnf)
        | (refine get_bool0 (by omega) ?_; conv => whnf)
        | (refine And.intro (And.intro (Int.le_refl _) (And.intro (by kernel_rfl) (And.intro rfl (by kernel_rfl)))) (And.intro (And.intro (by omega) (And.intro (bytes_le (b := 1) rfl (by omega)) (by omega))) ?_); conv => whnf)
        | (refine And.intro (And.intro (by kernel_rfl) (And.intro rfl (Nat.le_of_ble_eq_true rfl))) ?_; conv => whnf)
        | (refine And.intro (And.intro (by kernel_rfl) (by kernel_rfl)) ?_; conv => whnf)
        | (refine And.intro (by kernel_rfl) ?_; conv => whnf)
        | (refine aIf_tt (by assumption) ?_; conv => whnf)
        | (refine aIf_ff (by assumption) ?_; conv => whnf)
        | refine aIf_eqt ?_
        | refine aIf_eqf ?_
        | refine aIf_not ?_
        | (refine aIf_bself ?_; conv => whnf)
        | (refine aIf_beself ?_; conv => whnf)
        | (refine aIf_iself ?_; conv => whnf)
        | (refine aIf_decself ?_; conv => whnf)
        | (refine aIf_dec (fun _ => ?_) (fun _ => ?_) <;> conv => whnf)
        | (refine aIf_beq (fun _ => ?_) (fun _ => ?_) <;> conv => whnf)
        | (refine aIf_bne (fun _ => ?_) (fun _ => ?_) <;> conv => whnf)
        | (refine aIf_bbne (fun _ => ?_) (fun _ => ?_) <;> conv => whnf)
        | (refine aIf_bbeq (fun _ => ?_) (fun _ => ?_) <;> conv => whnf)
        | (refine aIf_in (fun _ => ?_) (fun _ => ?_) <;> conv => whnf))
      · refine next_in (k + 1) (by omega) ⟨by omega, fun j hj => ?_⟩ ?_
        · rcases Nat.lt_succ_iff_lt_or_eq.1 hj with h1 | rfl
          · exact hall j h1
          · assumption
        · have hmax : maxLen = 9223372036854775807 := rfl
          repeat' (first
            | exact trivial
            | exact rfl
            | exact pureL_ints _ _
            | exact pureL_bools _
            | exact Or.inl (And.intro rfl rfl)
            | exact le_ints rfl
            | exact le_ints (rep_ints _ _)
            | exact le_bools rfl
            | exact le_bools (rep_bools _)
            | refine le_ints ?_
            | refine Or.inr ?_
            | refine And.intro ?_ ?_
            | exact Nat.le_of_ble_eq_true rfl
            | exact Nat.zero_le _
            | exact int_eq (by assumption)
            | exact int_eq (by omega)
            | exact int_eq (Int.add_zero _).symm
            | exact List.length_append
            | exact int_eq (by rw [IntWalk.i64_in _ (by omega)] <;> omega))
      · refine retS rfl (congrArg AV.bool ?_)
        symm; rw [decide_eq_false_iff_not]; rintro rfl; contradiction
      · refine retS rfl (congrArg AV.bool ?_)
        symm; rw [decide_eq_true_iff]
        exact getD_ext (by omega) fun j hj => hall j (by omega)
  · refine retS rfl (congrArg AV.bool ?_)
    symm; rw [decide_eq_false_iff_not]; rintro rfl; omega
theorem l1Same_call {c d : Nat} {xs ys : List Int} {env : List AV} {rows : List Row} {ctr low : Nat} {k : AV → St → Prop} (h : k (.bool (decide (xs = ys))) ⟨env, rows, ctr + 1, low⟩) :
    CallB Try.prog 113 ⟨env, rows, ctr, low⟩ [.sl c xs.length (xs.map (.int .i64)), .sl d ys.length (ys.map (.int .i64))] k := callS_in l1Same_sound (c, xs, d, ys) trivial rfl h
set_option maxRecDepth 10000 in
theorem sameNums_sound : Sound Try.prog 79 sSame := by
  refine sound_of Try.func79 rfl (enters_of Try.func79 (by kernel_rfl) (by kernel_rfl)) ?_
  rintro ⟨c, xs, d, ys⟩ -
  conv => whnf
  repeat' (first
    | (refine aIf_t ?_; conv => whnf)
    | (refine aIf_f ?_; conv => whnf)
    | (refine fun (_ : _ ≤ maxLen) => ?_; conv => whnf)
    | (refine get_nat0 (by omega) ?_; conv => whnf)
    | (refine get_int0 (by omega) ?_; conv => whnf)
    | (refine get_nat (by omega) ?_; conv => whnf)
    | (refine get_int (by omega) ?_; conv => whnf)
    | (refine aGet_in rfl ?_; conv => whnf)
    | (refine And.intro (And.intro (Int.le_refl _) (And.intro (by kernel_rfl) (And.intro rfl (by kernel_rfl)))) (And.intro (And.intro (by omega) (And.intro (bytes_le (b := 8) rfl (by omega)) (by omega))) ?_); conv => whnf)
    | (refine And.intro (by omega) ?_; conv => whnf)
    | (refine load_same ?_; conv => whnf)
    | (refine And.intro (by rw [List.length_map]; omega) ?_; conv => whnf)
    | (refine And.intro rfl (And.intro (List.cons_ne_nil _ _) ?_); conv => whnf)
    | (refine And.intro (Nat.le_of_ble_eq_true rfl) ?_; conv => whnf)
    | (refine callG_t ?_; conv => whnf)
    | (refine And.intro (And.intro (Int.le_refl _) (And.intro (by kernel_rfl) (And.intro rfl (by kernel_rfl)))) (And.intro (And.intro (by omega) (And.intro (bytes_le (b := 24) rfl (by omega)) (by omega))) ?_); conv => whnf)
    | (refine And.intro (And.intro (Int.le_refl _) (And.intro (by kernel_rfl) (And.intro rfl (by kernel_rfl)))) (And.intro (And.intro (by omega) (And.intro (bytes_le (b := 48) rfl (by omega)) (by omega))) ?_); conv => whnf)
    | (refine takeN_in ?_; conv => whnf)
    | (refine And.intro (pureL_ints _ _) ?_; conv => whnf)
    | (refine cut_ints ?_; conv => whnf)
    | (refine cut_all rfl (scalL_ints _ _) ?_; conv => whnf)
    | (refine cut_all (by simp only [List.length_map]; omega) (scalL_ints _ _) ?_; conv => whnf)
    | (refine And.intro rfl (And.intro rfl (And.intro (by first | omega | (rw [List.length_map]; omega)) ?_)); conv => whnf)
    | (refine set_nat ?_ (by omega); conv => whnf)
    | (refine set_int ?_ (by omega); conv => whnf)
    | (refine set_bool ?_ (by omega); conv => whnf)
    | (refine set_force ?_; conv => whnf)
    | (refine get_bool0 (by omega) ?_; conv => whnf)
    | (refine And.intro (And.intro (Int.le_refl _) (And.intro (by kernel_rfl) (And.intro rfl (by kernel_rfl)))) (And.intro (And.intro (by omega) (And.intro (bytes_le (b := 1) rfl (by omega)) (by omega))) ?_); conv => whnf)
    | (refine And.intro (And.intro (by kernel_rfl) (And.intro rfl (Nat.le_of_ble_eq_true rfl))) ?_; conv => whnf)
    | (refine And.intro (And.intro (by kernel_rfl) (by kernel_rfl)) ?_; conv => whnf)
    | (refine And.intro (by kernel_rfl) ?_; conv => whnf)
    | (refine aIf_tt (by assumption) ?_; conv => whnf)
    | (refine aIf_ff (by assumption) ?_; conv => whnf)
    | refine aIf_eqt ?_
    | refine aIf_eqf ?_
    | refine aIf_not ?_
    | (refine aIf_bself ?_; conv => whnf)
    | (refine aIf_beself ?_; conv => whnf)
    | (refine aIf_iself ?_; conv => whnf)
    | (refine aIf_decself ?_; conv => whnf)
    | (refine aIf_dec (fun _ => ?_) (fun _ => ?_) <;> conv => whnf)
    | (refine aIf_beq (fun _ => ?_) (fun _ => ?_) <;> conv => whnf)
    | (refine aIf_bne (fun _ => ?_) (fun _ => ?_) <;> conv => whnf)
    | (refine aIf_bbne (fun _ => ?_) (fun _ => ?_) <;> conv => whnf)
    | (refine aIf_bbeq (fun _ => ?_) (fun _ => ?_) <;> conv => whnf)
    | (refine aIf_in (fun _ => ?_) (fun _ => ?_) <;> conv => whnf))
  · have hl : ys.length = xs.length := by omega
    refine loop_in (ι := Nat) (fun k => ⟨[.sl c xs.length (xs.map (.int .i64)), .sl d ys.length (ys.map (.int .i64)), .un, .un, .bool false, .un, .un, .un, .un, .un, .un, .un, .sl c xs.length (xs.map (.int .i64)), .int .i64 xs.length, .int .i64 k, .un, .un, .un, .un, .un, .un, .un, .un, .un, .un, .un], [], 1, 0⟩)
      (fun k => k ≤ xs.length ∧ ∀ j, j < k → xs.getD j 0 = ys.getD j 0) (fun k => xs.length - k) 0 ⟨Nat.zero_le _, fun j hj => by omega⟩ ?_ ?_
    · repeat' (first
        | exact trivial
        | exact rfl
        | exact pureL_ints _ _
        | exact pureL_bools _
        | exact Or.inl (And.intro rfl rfl)
        | exact le_ints rfl
        | exact le_ints (rep_ints _ _)
        | exact le_bools rfl
        | exact le_bools (rep_bools _)
        | refine le_ints ?_
        | refine Or.inr ?_
        | refine And.intro ?_ ?_
        | exact Nat.le_of_ble_eq_true rfl
        | exact Nat.zero_le _
        | exact int_eq (by assumption)
        | exact int_eq (by omega)
        | exact int_eq (Int.add_zero _).symm
        | exact List.length_append
        | exact int_eq (by rw [IntWalk.i64_in _ (by omega)] <;> omega))
    · rintro k ⟨hk, hall⟩
      conv => whnf
      repeat' (first
        | (refine aIf_t ?_; conv => whnf)
        | (refine aIf_f ?_; conv => whnf)
        | (refine fun (_ : _ ≤ maxLen) => ?_; conv => whnf)
        | (refine get_nat0 (by omega) ?_; conv => whnf)
        | (refine get_int0 (by omega) ?_; conv => whnf)
        | (refine get_nat (by omega) ?_; conv => whnf)
        | (refine get_int (by omega) ?_; conv => whnf)
        | (refine aGet_in rfl ?_; conv => whnf)
        | (refine And.intro (And.intro (Int.le_refl _) (And.intro (by kernel_rfl) (And.intro rfl (by kernel_rfl)))) (And.intro (And.intro (by omega) (And.intro (bytes_le (b := 8) rfl (by omega)) (by omega))) ?_); conv => whnf)
        | (refine And.intro (by omega) ?_; conv => whnf)
        | (refine load_same ?_; conv => whnf)
        | (refine And.intro (by rw [List.length_map]; omega) ?_; conv => whnf)
        | (refine And.intro rfl (And.intro (List.cons_ne_nil _ _) ?_); conv => whnf)
        | (refine And.intro (Nat.le_of_ble_eq_true rfl) ?_; conv => whnf)
        | (refine callG_t ?_; conv => whnf)
        | (refine And.intro (And.intro (Int.le_refl _) (And.intro (by kernel_rfl) (And.intro rfl (by kernel_rfl)))) (And.intro (And.intro (by omega) (And.intro (bytes_le (b := 24) rfl (by omega)) (by omega))) ?_); conv => whnf)
        | (refine And.intro (And.intro (Int.le_refl _) (And.intro (by kernel_rfl) (And.intro rfl (by kernel_rfl)))) (And.intro (And.intro (by omega) (And.intro (bytes_le (b := 48) rfl (by omega)) (by omega))) ?_); conv => whnf)
        | (refine takeN_in ?_; conv => whnf)
        | (refine And.intro (pureL_ints _ _) ?_; conv => whnf)
        | (refine cut_ints ?_; conv => whnf)
        | (refine cut_all rfl (scalL_ints _ _) ?_; conv => whnf)
        | (refine cut_all (by simp only [List.length_map]; omega) (scalL_ints _ _) ?_; conv => whnf)
        | (refine And.intro rfl (And.intro rfl (And.intro (by first | omega | (rw [List.length_map]; omega)) ?_)); conv => whnf)
        | (refine set_nat ?_ (by omega); conv => whnf)
        | (refine set_int ?_ (by omega); conv => whnf)
        | (refine set_bool ?_ (by omega); conv => whnf)
        | (refine set_force ?_; conv => whnf)
        | (refine get_bool0 (by omega) ?_; conv => whnf)
        | (refine And.intro (And.intro (Int.le_refl _) (And.intro (by kernel_rfl) (And.intro rfl (by kernel_rfl)))) (And.intro (And.intro (by omega) (And.intro (bytes_le (b := 1) rfl (by omega)) (by omega))) ?_); conv => whnf)
        | (refine And.intro (And.intro (by kernel_rfl) (And.intro rfl (Nat.le_of_ble_eq_true rfl))) ?_; conv => whnf)
        | (refine And.intro (And.intro (by kernel_rfl) (by kernel_rfl)) ?_; conv => whnf)
        | (refine And.intro (by kernel_rfl) ?_; conv => whnf)
        | (refine aIf_tt (by assumption) ?_; conv => whnf)
        | (refine aIf_ff (by assumption) ?_; conv => whnf)
        | refine aIf_eqt ?_
        | refine aIf_eqf ?_
        | refine aIf_not ?_
        | (refine aIf_bself ?_; conv => whnf)
        | (refine aIf_beself ?_; conv => whnf)
        | (refine aIf_iself ?_; conv => whnf)
        | (refine aIf_decself ?_; conv => whnf)
        | (refine aIf_dec (fun _ => ?_) (fun _ => ?_) <;> conv => whnf)
        | (refine aIf_beq (fun _ => ?_) (fun _ => ?_) <;> conv => whnf)
        | (refine aIf_bne (fun _ => ?_) (fun _ => ?_) <;> conv => whnf)
        | (refine aIf_bbne (fun _ => ?_) (fun _ => ?_) <;> conv => whnf)
        | (refine aIf_bbeq (fun _ => ?_) (fun _ => ?_) <;> conv => whnf)
        | (refine aIf_in (fun _ => ?_) (fun _ => ?_) <;> conv => whnf))
      · refine next_in (k + 1) (by omega) ⟨by omega, fun j hj => ?_⟩ ?_
        · rcases Nat.lt_succ_iff_lt_or_eq.1 hj with h1 | rfl
          · exact hall j h1
          · assumption
        · have hmax : maxLen = 9223372036854775807 := rfl
          repeat' (first
            | exact trivial
            | exact rfl
            | exact pureL_ints _ _
            | exact pureL_bools _
            | exact Or.inl (And.intro rfl rfl)
            | exact le_ints rfl
            | exact le_ints (rep_ints _ _)
            | exact le_bools rfl
            | exact le_bools (rep_bools _)
            | refine le_ints ?_
            | refine Or.inr ?_
            | refine And.intro ?_ ?_
            | exact Nat.le_of_ble_eq_true rfl
            | exact Nat.zero_le _
            | exact int_eq (by assumption)
            | exact int_eq (by omega)
            | exact int_eq (Int.add_zero _).symm
            | exact List.length_append
            | exact int_eq (by rw [IntWalk.i64_in _ (by omega)] <;> omega))
      · refine retS rfl (congrArg AV.bool ?_)
        symm; rw [decide_eq_false_iff_not]; rintro rfl; contradiction
      · refine retS rfl (congrArg AV.bool ?_)
        symm; rw [decide_eq_true_iff]
        exact getD_ext (by omega) fun j hj => hall j (by omega)
  · refine retS rfl (congrArg AV.bool ?_)
    symm; rw [decide_eq_false_iff_not]; rintro rfl; omega
theorem sameNums_call {c d : Nat} {xs ys : List Int} {env : List AV} {rows : List Row} {ctr low : Nat} {k : AV → St → Prop} (h : k (.bool (decide (xs = ys))) ⟨env, rows, ctr + 1, low⟩) :
    CallB Try.prog 79 ⟨env, rows, ctr, low⟩ [.sl c xs.length (xs.map (.int .i64)), .sl d ys.length (ys.map (.int .i64))] k := callS_in sameNums_sound (c, xs, d, ys) trivial rfl h
theorem wrap_add0 (x : Int) : IntKind.i64.wrap (IntKind.i64.wrap x + 0) = IntKind.i64.wrap x := by simp only [IntKind.wrap_i64]; omega

/-- The place in the smaller shape. -/
def px (xs ys : List Int) (i : Int) : List Int := (List.range xs.length).map fun j => if 1 < xs.getD j 0 then (places ys i).getD (ys.length - xs.length + j) 0 else 0
theorem px_length (xs ys : List Int) (i : Int) : (px xs ys i).length = xs.length := by simp [px]
theorem px_getD {xs ys : List Int} {i : Int} {j : Nat} (h : j < xs.length) : (px xs ys i).getD j 0 = if 1 < xs.getD j 0 then (places ys i).getD (ys.length - xs.length + j) 0 else 0 := by
  simp [px, List.getD, List.getElem?_map, List.getElem?_range h]

theorem l1Index_n {c d n : Nat} {xs ps : List Int} {env : List AV} {rows : List Row} {ctr low : Nat} {k : AV → St → Prop} (hn : n = ps.length) (hl : ps.length = xs.length) (h : k (.int .i64 (idxTo xs ps xs.length)) ⟨env, rows, ctr + 1, low⟩) :
    CallB Try.prog 124 ⟨env, rows, ctr, low⟩ [.sl c xs.length (xs.map (.int .i64)), .sl d n (ps.map (.int .i64))] k := by
  subst hn; exact l1Index_call hl h

set_option maxHeartbeats 4000000 in
set_option maxRecDepth 10000 in
theorem l1Spread_sound : Sound Try.prog 162 (fnS (ι := Nat × List Int × Nat × List Int × Int) (fun | (c, xs, d, ys, i) => [.sl c xs.length (xs.map (.int .i64)), .sl d ys.length (ys.map (.int .i64)), .int .i64 i]) (fun | (_, xs, _, ys, _) => shapeOk ys = true ∧ xs.length ≤ ys.length) (fun | (_, xs, _, ys, i) => .int .i64 (idxTo xs (px xs ys i) xs.length))) := by
  refine sound_of Try.func162 rfl (enters_of Try.func162 (by kernel_rfl) (by kernel_rfl)) ?_
  rintro ⟨c, xs, d, ys, i⟩ ⟨hy, hxy⟩
  have hxy : xs.length ≤ ys.length := hxy
  have hy : shapeOk ys = true := hy
  have hly := ((shapeOk_iff ys).1 hy).1
  have hpl := places_length ys i
  conv => whnf
  repeat' (first
    | (refine aIf_t ?_; conv => whnf)
    | (refine aIf_f ?_; conv => whnf)
    | (refine fun (_ : _ ≤ maxLen) => ?_; conv => whnf)
    | (refine get_nat0 (by omega) ?_; conv => whnf)
    | (refine get_int0 (by omega) ?_; conv => whnf)
    | (refine get_nat (by omega) ?_; conv => whnf)
    | (refine get_int (by omega) ?_; conv => whnf)
    | (refine aGet_in rfl ?_; conv => whnf)
    | (refine And.intro (And.intro (Int.le_refl _) (And.intro (by kernel_rfl) (And.intro rfl (by kernel_rfl)))) (And.intro (And.intro (by omega) (And.intro (bytes_le (b := 8) rfl (by omega)) (by omega))) ?_); conv => whnf)
    | (refine And.intro (by omega) ?_; conv => whnf)
    | (refine load_same ?_; conv => whnf)
    | (refine And.intro (by rw [List.length_map]; omega) ?_; conv => whnf)
    | (refine And.intro rfl (And.intro (List.cons_ne_nil _ _) ?_); conv => whnf)
    | (refine And.intro (Nat.le_of_ble_eq_true rfl) ?_; conv => whnf)
    | (refine callG_t ?_; conv => whnf)
    | (refine And.intro (And.intro (Int.le_refl _) (And.intro (by kernel_rfl) (And.intro rfl (by kernel_rfl)))) (And.intro (And.intro (by omega) (And.intro (bytes_le (b := 24) rfl (by omega)) (by omega))) ?_); conv => whnf)
    | (refine And.intro (And.intro (Int.le_refl _) (And.intro (by kernel_rfl) (And.intro rfl (by kernel_rfl)))) (And.intro (And.intro (by omega) (And.intro (bytes_le (b := 48) rfl (by omega)) (by omega))) ?_); conv => whnf)
    | (refine takeN_in ?_; conv => whnf)
    | (refine And.intro (pureL_ints _ _) ?_; conv => whnf)
    | (refine cut_ints ?_; conv => whnf)
    | (refine cut_all rfl (scalL_ints _ _) ?_; conv => whnf)
    | (refine cut_all (by simp only [List.length_map]; omega) (scalL_ints _ _) ?_; conv => whnf)
    | (refine l1Index_call (by assumption) ?_; conv => whnf)
    | (refine l1Place_call (by assumption) ?_; conv => whnf)
    | (refine l1Index_n (by omega) (by omega) ?_; conv => whnf)
    | (refine And.intro rfl (And.intro rfl (And.intro (by first | omega | (rw [List.length_map]; omega)) ?_)); conv => whnf)
    | (refine set_nat ?_ (by omega); conv => whnf)
    | (refine set_int ?_ (by omega); conv => whnf)
    | (refine set_bool ?_ (by omega); conv => whnf)
    | (refine set_force ?_; conv => whnf)
    | (refine get_bool0 (by omega) ?_; conv => whnf)
    | (refine And.intro (And.intro (Int.le_refl _) (And.intro (by kernel_rfl) (And.intro rfl (by kernel_rfl)))) (And.intro (And.intro (by omega) (And.intro (bytes_le (b := 1) rfl (by omega)) (by omega))) ?_); conv => whnf)
    | (refine And.intro (And.intro (by kernel_rfl) (And.intro rfl (Nat.le_of_ble_eq_true rfl))) ?_; conv => whnf)
    | (refine And.intro (And.intro (by kernel_rfl) (by kernel_rfl)) ?_; conv => whnf)
    | (refine And.intro (by kernel_rfl) ?_; conv => whnf)
    | (refine aIf_tt (by assumption) ?_; conv => whnf)
    | (refine aIf_ff (by assumption) ?_; conv => whnf)
    | refine aIf_eqt ?_
    | refine aIf_eqf ?_
    | refine aIf_not ?_
    | (refine aIf_bself ?_; conv => whnf)
    | (refine aIf_beself ?_; conv => whnf)
    | (refine aIf_iself ?_; conv => whnf)
    | (refine aIf_decself ?_; conv => whnf)
    | (refine aIf_dec (fun _ => ?_) (fun _ => ?_) <;> conv => whnf)
    | (refine aIf_beq (fun _ => ?_) (fun _ => ?_) <;> conv => whnf)
    | (refine aIf_bne (fun _ => ?_) (fun _ => ?_) <;> conv => whnf)
    | (refine aIf_bbne (fun _ => ?_) (fun _ => ?_) <;> conv => whnf)
    | (refine aIf_bbeq (fun _ => ?_) (fun _ => ?_) <;> conv => whnf)
    | (refine aIf_in (fun _ => ?_) (fun _ => ?_) <;> conv => whnf))
  refine loop_in (ι := Nat × List Int) (fun | (k, ws) => ⟨[.sl c xs.length (xs.map (.int .i64)), .sl d ys.length (ys.map (.int .i64)), .int .i64 i, .un, .un, .un, .un, .ref 0 1 0 (places ys i).length, .ref 1 2 0 xs.length, .int .i64 k, .un, .un, .un, .un, .un, .un, .un, .un, .un, .un, .un, .un, .un, .un, .un, .un, .un, .un, .un, .un, .un, .un, .un, .un, .un, .un, .un, .un, .un, .un, .un, .un, .un], [⟨1, 3, 1, (places ys i).map (.int .i64)⟩, ⟨2, 3, 1, ws.map (.int .i64)⟩], 3, 0⟩)
    (fun x => x.1 ≤ xs.length ∧ x.2.length = xs.length ∧ (∀ j, j < x.1 → x.2.getD j 0 = (px xs ys i).getD j 0) ∧ ∀ j, x.1 ≤ j → j < xs.length → x.2.getD j 0 = 0) (fun x => xs.length - x.1) (0, List.replicate xs.length 0) ⟨Nat.zero_le _, by simp, fun j hj => absurd hj (Nat.not_lt_zero _), fun j _ hj => by simp [List.getD, hj]⟩ ?_ ?_
  · repeat' (first
      | exact trivial
      | exact rfl
      | exact pureL_ints _ _
      | exact pureL_bools _
      | exact Or.inl (And.intro rfl rfl)
      | exact le_ints rfl
      | exact le_ints (rep_ints _ _)
      | exact le_bools rfl
      | exact le_bools (rep_bools _)
      | refine le_ints ?_
      | refine Or.inr ?_
      | refine And.intro ?_ ?_
      | exact Nat.le_of_ble_eq_true rfl
      | exact Nat.zero_le _
      | exact int_eq (by assumption)
      | exact int_eq (by omega)
      | exact int_eq (Int.add_zero _).symm
      | exact List.length_append
      | exact int_eq (by rw [IntWalk.i64_in _ (by omega)] <;> omega))
  · rintro ⟨k, ws⟩ ⟨hk, hl, hall, hz⟩
    have hk : k ≤ xs.length := hk
    have hl : ws.length = xs.length := hl
    have hall : ∀ j, j < k → ws.getD j 0 = (px xs ys i).getD j 0 := hall
    have hz : ∀ j, k ≤ j → j < xs.length → ws.getD j 0 = 0 := hz
    have hw1 : IntKind.i64.wrap ((ys.length : Int) - (xs.length : Int)) = (ys.length : Int) - (xs.length : Int) := IntWalk.i64_in _ (by omega)
    have hw2 : IntKind.i64.wrap (IntKind.i64.wrap ((ys.length : Int) - (xs.length : Int)) + (k : Int)) = (ys.length : Int) - (xs.length : Int) + (k : Int) := by rw [hw1]; exact IntWalk.i64_in _ (by omega)
    have hi : (IntKind.i64.wrap (IntKind.i64.wrap ((ys.length : Int) - (xs.length : Int)) + (k : Int))).toNat = ys.length - xs.length + k := by rw [hw2]; omega
    by_cases hkx : k < xs.length
    · have hp := px_getD (ys := ys) (i := i) hkx
      conv => whnf
      repeat' (first
        | (refine aIf_t ?_; conv => whnf)
        | (refine aIf_f ?_; conv => whnf)
        | (refine fun (_ : _ ≤ maxLen) => ?_; conv => whnf)
        | (refine get_nat0 (by omega) ?_; conv => whnf)
        | (refine get_int0 (by omega) ?_; conv => whnf)
        | (refine get_nat (by omega) ?_; conv => whnf)
        | (refine get_int (by omega) ?_; conv => whnf)
        | (refine aGet_in rfl ?_; conv => whnf)
        | (refine And.intro (And.intro (Int.le_refl _) (And.intro (by kernel_rfl) (And.intro rfl (by kernel_rfl)))) (And.intro (And.intro (by omega) (And.intro (bytes_le (b := 8) rfl (by omega)) (by omega))) ?_); conv => whnf)
        | (refine And.intro (by omega) ?_; conv => whnf)
        | (refine load_same ?_; conv => whnf)
        | (refine And.intro (by rw [List.length_map]; omega) ?_; conv => whnf)
        | (refine And.intro rfl (And.intro (List.cons_ne_nil _ _) ?_); conv => whnf)
        | (refine And.intro (Nat.le_of_ble_eq_true rfl) ?_; conv => whnf)
        | (refine callG_t ?_; conv => whnf)
        | (refine And.intro (And.intro (Int.le_refl _) (And.intro (by kernel_rfl) (And.intro rfl (by kernel_rfl)))) (And.intro (And.intro (by omega) (And.intro (bytes_le (b := 24) rfl (by omega)) (by omega))) ?_); conv => whnf)
        | (refine And.intro (And.intro (Int.le_refl _) (And.intro (by kernel_rfl) (And.intro rfl (by kernel_rfl)))) (And.intro (And.intro (by omega) (And.intro (bytes_le (b := 48) rfl (by omega)) (by omega))) ?_); conv => whnf)
        | (refine takeN_in ?_; conv => whnf)
        | (refine And.intro (pureL_ints _ _) ?_; conv => whnf)
        | (refine cut_ints ?_; conv => whnf)
        | (refine cut_all rfl (scalL_ints _ _) ?_; conv => whnf)
        | (refine cut_all (by simp only [List.length_map]; omega) (scalL_ints _ _) ?_; conv => whnf)
        | (refine l1Index_call (by assumption) ?_; conv => whnf)
        | (refine l1Place_call (by assumption) ?_; conv => whnf)
        | (refine l1Index_n (by omega) (by omega) ?_; conv => whnf)
        | (refine And.intro rfl (And.intro rfl (And.intro (by first | omega | (rw [List.length_map]; omega)) ?_)); conv => whnf)
        | (refine set_nat ?_ (by omega); conv => whnf)
        | (refine set_int ?_ (by omega); conv => whnf)
        | (refine set_bool ?_ (by omega); conv => whnf)
        | (refine set_force ?_; conv => whnf)
        | (refine get_bool0 (by omega) ?_; conv => whnf)
        | (refine And.intro (And.intro (Int.le_refl _) (And.intro (by kernel_rfl) (And.intro rfl (by kernel_rfl)))) (And.intro (And.intro (by omega) (And.intro (bytes_le (b := 1) rfl (by omega)) (by omega))) ?_); conv => whnf)
        | (refine And.intro (And.intro (by kernel_rfl) (And.intro rfl (Nat.le_of_ble_eq_true rfl))) ?_; conv => whnf)
        | (refine And.intro (And.intro (by kernel_rfl) (by kernel_rfl)) ?_; conv => whnf)
        | (refine And.intro (by kernel_rfl) ?_; conv => whnf)
        | (refine aIf_tt (by assumption) ?_; conv => whnf)
        | (refine aIf_ff (by assumption) ?_; conv => whnf)
        | refine aIf_eqt ?_
        | refine aIf_eqf ?_
        | refine aIf_not ?_
        | (refine aIf_bself ?_; conv => whnf)
        | (refine aIf_beself ?_; conv => whnf)
        | (refine aIf_iself ?_; conv => whnf)
        | (refine aIf_decself ?_; conv => whnf)
        | (refine aIf_dec (fun _ => ?_) (fun _ => ?_) <;> conv => whnf)
        | (refine aIf_beq (fun _ => ?_) (fun _ => ?_) <;> conv => whnf)
        | (refine aIf_bne (fun _ => ?_) (fun _ => ?_) <;> conv => whnf)
        | (refine aIf_bbne (fun _ => ?_) (fun _ => ?_) <;> conv => whnf)
        | (refine aIf_bbeq (fun _ => ?_) (fun _ => ?_) <;> conv => whnf)
        | (refine aIf_in (fun _ => ?_) (fun _ => ?_) <;> conv => whnf))
      all_goals (first | (exfalso; omega) | skip)
      · have hp : (px xs ys i).getD k 0 = (places ys i).getD (ys.length - xs.length + k) 0 := by rw [hp, if_pos (by omega)]
        rw [hi]
        simp only [Nat.mul_one]
        refine next_in (k + 1, ws.set k ((places ys i).getD (ys.length - xs.length + k) 0)) (show xs.length - (k + 1) < xs.length - k by omega) ⟨(show k + 1 ≤ xs.length by omega), by simpa using hl, fun j hj => ?_, fun j hj hj' => ?_⟩ ?_
        · have hj : j < k + 1 := hj
          show (ws.set k _).getD j 0 = _
          rw [getD_set (by omega)]
          split
          · rename_i e; subst e; exact hp.symm
          · exact hall j (by omega)
        · have hj : k + 1 ≤ j := hj
          show (ws.set k _).getD j 0 = _
          rw [getD_set (by omega), if_neg (by omega)]
          exact hz j (by omega) hj'
        · repeat' (first
            | exact trivial
            | exact rfl
            | exact pureL_ints _ _
            | exact pureL_bools _
            | exact Or.inl (And.intro rfl rfl)
            | exact le_ints rfl
            | exact le_ints (rep_ints _ _)
            | exact le_bools rfl
            | exact le_bools (rep_bools _)
            | refine le_ints ?_
            | refine Or.inr ?_
            | refine And.intro ?_ ?_
            | exact Nat.le_of_ble_eq_true rfl
            | exact Nat.zero_le _
            | exact int_eq (by assumption)
            | exact int_eq (by omega)
            | exact int_eq (Int.add_zero _).symm
            | exact List.length_append
            | exact int_eq (by rw [IntWalk.i64_in _ (by omega)] <;> omega))
      · have hp : (px xs ys i).getD k 0 = 0 := by rw [hp, if_neg (by omega)]
        refine next_in (k + 1, ws) (show xs.length - (k + 1) < xs.length - k by omega) ⟨(show k + 1 ≤ xs.length by omega), hl, fun j hj => ?_, fun j hj hj' => hz j (by have hj : k + 1 ≤ j := hj; omega) hj'⟩ ?_
        · have hj : j < k + 1 := hj
          rcases Nat.lt_succ_iff_lt_or_eq.1 hj with h1 | rfl
          · exact hall j h1
          · rw [hp]; exact hz _ (Nat.le_refl _) hkx
        · repeat' (first
            | exact trivial
            | exact rfl
            | exact pureL_ints _ _
            | exact pureL_bools _
            | exact Or.inl (And.intro rfl rfl)
            | exact le_ints rfl
            | exact le_ints (rep_ints _ _)
            | exact le_bools rfl
            | exact le_bools (rep_bools _)
            | refine le_ints ?_
            | refine Or.inr ?_
            | refine And.intro ?_ ?_
            | exact Nat.le_of_ble_eq_true rfl
            | exact Nat.zero_le _
            | exact int_eq (by assumption)
            | exact int_eq (by omega)
            | exact int_eq (Int.add_zero _).symm
            | exact List.length_append
            | exact int_eq (by rw [IntWalk.i64_in _ (by omega)] <;> omega))
    · have e : k = xs.length := by omega
      have e1 : ws = px xs ys i := getD_ext (by rw [px_length, hl]) fun j hj => by
        rw [px_length] at hj; exact hall j (by omega)
      subst e1
      have hpx := px_length xs ys i
      conv => whnf
      repeat' (first
        | (refine aIf_t ?_; conv => whnf)
        | (refine aIf_f ?_; conv => whnf)
        | (refine fun (_ : _ ≤ maxLen) => ?_; conv => whnf)
        | (refine get_nat0 (by omega) ?_; conv => whnf)
        | (refine get_int0 (by omega) ?_; conv => whnf)
        | (refine get_nat (by omega) ?_; conv => whnf)
        | (refine get_int (by omega) ?_; conv => whnf)
        | (refine aGet_in rfl ?_; conv => whnf)
        | (refine And.intro (And.intro (Int.le_refl _) (And.intro (by kernel_rfl) (And.intro rfl (by kernel_rfl)))) (And.intro (And.intro (by omega) (And.intro (bytes_le (b := 8) rfl (by omega)) (by omega))) ?_); conv => whnf)
        | (refine And.intro (by omega) ?_; conv => whnf)
        | (refine load_same ?_; conv => whnf)
        | (refine And.intro (by rw [List.length_map]; omega) ?_; conv => whnf)
        | (refine And.intro rfl (And.intro (List.cons_ne_nil _ _) ?_); conv => whnf)
        | (refine And.intro (Nat.le_of_ble_eq_true rfl) ?_; conv => whnf)
        | (refine callG_t ?_; conv => whnf)
        | (refine And.intro (And.intro (Int.le_refl _) (And.intro (by kernel_rfl) (And.intro rfl (by kernel_rfl)))) (And.intro (And.intro (by omega) (And.intro (bytes_le (b := 24) rfl (by omega)) (by omega))) ?_); conv => whnf)
        | (refine And.intro (And.intro (Int.le_refl _) (And.intro (by kernel_rfl) (And.intro rfl (by kernel_rfl)))) (And.intro (And.intro (by omega) (And.intro (bytes_le (b := 48) rfl (by omega)) (by omega))) ?_); conv => whnf)
        | (refine takeN_in ?_; conv => whnf)
        | (refine And.intro (pureL_ints _ _) ?_; conv => whnf)
        | (refine cut_ints ?_; conv => whnf)
        | (refine cut_all rfl (scalL_ints _ _) ?_; conv => whnf)
        | (refine cut_all (by simp only [List.length_map]; omega) (scalL_ints _ _) ?_; conv => whnf)
        | (refine l1Index_call (by assumption) ?_; conv => whnf)
        | (refine l1Place_call (by assumption) ?_; conv => whnf)
        | (refine l1Index_n (by omega) (by omega) ?_; conv => whnf)
        | (refine And.intro rfl (And.intro rfl (And.intro (by first | omega | (rw [List.length_map]; omega)) ?_)); conv => whnf)
        | (refine set_nat ?_ (by omega); conv => whnf)
        | (refine set_int ?_ (by omega); conv => whnf)
        | (refine set_bool ?_ (by omega); conv => whnf)
        | (refine set_force ?_; conv => whnf)
        | (refine get_bool0 (by omega) ?_; conv => whnf)
        | (refine And.intro (And.intro (Int.le_refl _) (And.intro (by kernel_rfl) (And.intro rfl (by kernel_rfl)))) (And.intro (And.intro (by omega) (And.intro (bytes_le (b := 1) rfl (by omega)) (by omega))) ?_); conv => whnf)
        | (refine And.intro (And.intro (by kernel_rfl) (And.intro rfl (Nat.le_of_ble_eq_true rfl))) ?_; conv => whnf)
        | (refine And.intro (And.intro (by kernel_rfl) (by kernel_rfl)) ?_; conv => whnf)
        | (refine And.intro (by kernel_rfl) ?_; conv => whnf)
        | (refine aIf_tt (by assumption) ?_; conv => whnf)
        | (refine aIf_ff (by assumption) ?_; conv => whnf)
        | refine aIf_eqt ?_
        | refine aIf_eqf ?_
        | refine aIf_not ?_
        | (refine aIf_bself ?_; conv => whnf)
        | (refine aIf_beself ?_; conv => whnf)
        | (refine aIf_iself ?_; conv => whnf)
        | (refine aIf_decself ?_; conv => whnf)
        | (refine aIf_dec (fun _ => ?_) (fun _ => ?_) <;> conv => whnf)
        | (refine aIf_beq (fun _ => ?_) (fun _ => ?_) <;> conv => whnf)
        | (refine aIf_bne (fun _ => ?_) (fun _ => ?_) <;> conv => whnf)
        | (refine aIf_bbne (fun _ => ?_) (fun _ => ?_) <;> conv => whnf)
        | (refine aIf_bbeq (fun _ => ?_) (fun _ => ?_) <;> conv => whnf)
        | (refine aIf_in (fun _ => ?_) (fun _ => ?_) <;> conv => whnf))
      all_goals (first | (exfalso; omega) | exact retS rfl rfl)
theorem l1Spread_call {c d : Nat} {xs ys : List Int} {i : Int} {env : List AV} {rows : List Row} {ctr low : Nat} {k : AV → St → Prop} (hpre : shapeOk ys = true ∧ xs.length ≤ ys.length) (h : k (.int .i64 (idxTo xs (px xs ys i) xs.length)) ⟨env, rows, ctr + 1, low⟩) :
    CallB Try.prog 162 ⟨env, rows, ctr, low⟩ [.sl c xs.length (xs.map (.int .i64)), .sl d ys.length (ys.map (.int .i64)), .int .i64 i] k := callS_in l1Spread_sound (c, xs, d, ys, i) hpre rfl h

/-- SpreadIndex: the smaller shape goes into the greater one, and the index is one. -/
abbrev spOk (xs ys : List Int) (i : Int) : Prop := jOk xs ys = true ∧ jL xs ys = ys ∧ (0 ≤ i ∧ i < cntTo ys ys.length)
theorem sp_facts {xs ys : List Int} (h : jOk xs ys = true) (h' : jL xs ys = ys) : shapeOk ys = true ∧ xs.length ≤ ys.length := by
  have h1 := (jOk_iff xs ys).1 h
  refine ⟨h1.2.1, ?_⟩
  have e : jL xs ys = joined xs ys := if_pos h
  have : (jL xs ys).length = ys.length := congrArg List.length h'
  rw [e, joined_length] at this
  unfold jN at this; omega
def spread (xs ys : List Int) (i : Int) : Int := if spOk xs ys i then idxTo xs (px xs ys i) xs.length else -1
theorem spread_t {xs ys : List Int} {i : Int} (h : jOk xs ys = true) (h' : jL xs ys = ys) (h2 : 0 ≤ i ∧ i < cntTo ys ys.length) : idxTo xs (px xs ys i) xs.length = spread xs ys i := (if_pos ⟨h, h', h2⟩).symm
theorem spread_f {xs ys : List Int} {i : Int} (h : ¬ spOk xs ys i) : -1 = spread xs ys i := (if_neg h).symm
def sSpread : CSpec := fnS (ι := Nat × List Int × Nat × List Int × Int) (fun | (c, xs, d, ys, i) => [.sl c xs.length (xs.map (.int .i64)), .sl d ys.length (ys.map (.int .i64)), .int .i64 i]) (fun | (_, _, _, ys, _) => ys.length ≤ 1048576) (fun | (_, xs, _, ys, i) => .int .i64 (spread xs ys i))

end Go.Proofs.Ytegoncendpboiaa
