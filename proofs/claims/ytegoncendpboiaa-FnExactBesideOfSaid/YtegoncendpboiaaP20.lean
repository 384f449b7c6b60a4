/- JoinShapes of the spec. -/
import Derived.Test.YtegoncendpboiaaP19
namespace Go.Proofs.Ytegoncendpboiaa
set_option maxRecDepth 20000
open Go.RowKit Go.Am
attribute [local irreducible] aPlan aGet aIf aLoop aCall RetB NextB CallB CallG aCut aSet aAppend

set_option maxHeartbeats 4000000 in
set_option maxRecDepth 10000 in
theorem l1Join_sound : Sound Try.prog 137 (fnLB (ι := Nat × List Int × Nat × List Int) 3 (fun | (c, xs, d, ys) => [.sl c xs.length (xs.map (.int .i64)), .sl d ys.length (ys.map (.int .i64))]) (fun | (_, xs, _, ys) => shapeOk xs = true ∧ shapeOk ys = true) (fun | (_, xs, _, ys) => jL xs ys) (fun | (_, xs, _, ys) => jOk xs ys)) := by
  refine sound_of Try.func137 rfl (enters_of Try.func137 (by kernel_rfl) (by kernel_rfl)) ?_
  rintro ⟨c, xs, d, ys⟩ ⟨hx, hy⟩
  have hlx := ((shapeOk_iff xs).1 hx).1
  have hly := ((shapeOk_iff ys).1 hy).1
  conv => whnf
  repeat' (first
    | (refine aIf_t ?_; conv => whnf)
    | (refine aIf_f ?_; conv => whnf)
    | (refine fun (_ : _ ≤ maxLen) => ?_; conv => whnf)
    | (refine get_nat0 (by omega) ?_; conv => whnf)
    | (refine get_int0 (by omega) ?_; conv => whnf)
    | (refine get_nat (by omega) ?_; conv => whnf)
    | (refine get_int (by omega) ?_; conv => whnf)
    | (refine aGet_in rfl ?_; conv => whnf)
    | (refine And.intro (And.intro (Int.le_refl _) (And.intro (by kernel_rfl) (And.intro rfl (by kernel_rfl)))) (And.intro (And.intro (by omega) (And.intro (bytes_le (b := 8) rfl (by omega)) (by omega))) ?_); conv => whnf)
    | (refine And.intro (by omega) ?_; conv => whnf)
    | (refine load_same ?_; conv => whnf)
    | (refine And.intro (by rw [List.length_map]; omega) ?_; conv => whnf)
    | (refine And.intro rfl (And.intro (List.cons_ne_nil _ _) ?_); conv => whnf)
    | (refine And.intro (Nat.le_of_ble_eq_true rfl) ?_; conv => whnf)
    | (refine callG_t ?_; conv => whnf)
    | (refine And.intro (And.intro (Int.le_refl _) (And.intro (by kernel_rfl) (And.intro rfl (by kernel_rfl)))) (And.intro (And.intro (by omega) (And.intro (bytes_le (b := 24) rfl (by omega)) (by omega))) ?_); conv => whnf)
    | (refine And.intro (And.intro (Int.le_refl _) (And.intro (by kernel_rfl) (And.intro rfl (by kernel_rfl)))) (And.intro (And.intro (by omega) (And.intro (bytes_le (b := 48) rfl (by omega)) (by omega))) ?_); conv => whnf)
    | (refine takeN_in ?_; conv => whnf)
    | (refine And.intro (pureL_ints _ _) ?_; conv => whnf)
    | (refine cut_ints ?_; conv => whnf)
    | (refine cut_all rfl (scalL_ints _ _) ?_; conv => whnf)
    | (refine cut_all (by simp only [List.length_map]; omega) (scalL_ints _ _) ?_; conv => whnf)
    | (refine l1Axis_call (by omega) ?_; conv => whnf)
    | (refine And.intro rfl (And.intro rfl (And.intro (by first | omega | (rw [List.length_map]; omega)) ?_)); conv => whnf)
    | (refine set_nat ?_ (by omega); conv => whnf)
    | (refine set_int ?_ (by omega); conv => whnf)
    | (refine set_bool ?_ (by omega); conv => whnf)
    | (refine set_force ?_; conv => whnf)
    | (refine get_bool0 (by omega) ?_; conv => whnf)
    | (refine And.intro (And.intro (Int.le_refl _) (And.intro (by kernel_rfl) (And.intro rfl (by kernel_rfl)))) (And.intro (And.intro (by omega) (And.intro (bytes_le (b := 1) rfl (by omega)) (by omega))) ?_); conv => whnf)
    | (refine And.intro (And.intro (by kernel_rfl) (And.intro rfl (Nat.le_of_ble_eq_true rfl))) ?_; conv => whnf)
    | (refine And.intro (And.intro (by kernel_rfl) (by kernel_rfl)) ?_; conv => whnf)
    | (refine And.intro (by kernel_rfl) ?_; conv => whnf)
    | (refine aIf_tt (by assumption) ?_; conv => whnf)
    | (refine aIf_ff (by assumption) ?_; conv => whnf)
    | refine aIf_eqt ?_
    | refine aIf_eqf ?_
    | refine aIf_not ?_
    | (refine aIf_bself ?_; conv => whnf)
    | (refine aIf_beself ?_; conv => whnf)
    | (refine aIf_iself ?_; conv => whnf)
    | (refine aIf_decself ?_; conv => whnf)
    | (refine aIf_dec (fun _ => ?_) (fun _ => ?_) <;> conv => whnf)
    | (refine aIf_beq (fun _ => ?_) (fun _ => ?_) <;> conv => whnf)
    | (refine aIf_bne (fun _ => ?_) (fun _ => ?_) <;> conv => whnf)
    | (refine aIf_bbne (fun _ => ?_) (fun _ => ?_) <;> conv => whnf)
    | (refine aIf_bbeq (fun _ => ?_) (fun _ => ?_) <;> conv => whnf)
    | (refine aIf_in (fun _ => ?_) (fun _ => ?_) <;> conv => whnf))
  · have hN : jN xs ys = ys.length := by unfold jN; omega
    have hw1 : IntKind.i64.wrap ((ys.length : Int) - 1) = (ys.length : Int) - 1 := IntWalk.i64_in _ (by omega)
    refine loop_in (ι := Nat × List Int) (fun | (k, ws) => ⟨[.sl c xs.length (xs.map (.int .i64)), .sl d ys.length (ys.map (.int .i64)), .un, .un, .un, .un, .int .i64 ys.length, .ref 1 2 0 ys.length, .int .i64 k, .un, .un, .un, .un, .un, .un, .un, .un, .un, .un, .un, .un, .un, .un, .un, .un, .un, .un, .un, .un, .un, .un, .un, .un, .un, .un, .un, .un, .un, .un, .un, .un, .un, .un, .un, .un, .un, .un, .un, .un, .un, .un, .un, .un, .un, .un], [⟨1, 3, 1, []⟩, ⟨2, 3, 1, ws.map (.int .i64)⟩], 3, 0⟩)
      (fun x => x.1 ≤ ys.length ∧ x.2.length = ys.length ∧ ∀ j, ys.length - x.1 ≤ j → j < ys.length → x.2.getD j 0 = jn xs ys ((ys.length : Int) - (j : Int)) ∧ ¬ bad xs ys ((ys.length : Int) - (j : Int))) (fun x => ys.length - x.1) (0, List.replicate ys.length 0) ⟨Nat.zero_le _, by simp, fun j h1 h2 => absurd h1 (by simp only [Nat.sub_zero]; omega)⟩ ?_ ?_
    · repeat' (first
        | exact trivial
        | exact rfl
        | exact pureL_ints _ _
        | exact pureL_bools _
        | exact Or.inl (And.intro rfl rfl)
        | exact le_ints rfl
        | exact le_ints (rep_ints _ _)
        | exact le_bools rfl
        | exact le_bools (rep_bools _)
        | refine le_ints ?_
        | refine Or.inr ?_
        | refine And.intro ?_ ?_
        | exact Nat.le_of_ble_eq_true rfl
        | exact Nat.zero_le _
        | exact int_eq (by assumption)
        | exact int_eq (by omega)
        | exact int_eq (Int.add_zero _).symm
        | exact List.length_append
        | exact int_eq (by rw [IntWalk.i64_in _ (by omega)] <;> omega))
    · rintro ⟨k, ws⟩ ⟨hk, hl, hall⟩
      have hk : k ≤ ys.length := hk
      have hl : ws.length = ys.length := hl
      have hall : ∀ j, ys.length - k ≤ j → j < ys.length → ws.getD j 0 = jn xs ys ((ys.length : Int) - (j : Int)) ∧ ¬ bad xs ys ((ys.length : Int) - (j : Int)) := hall
      have hw2 : k < ys.length → IntKind.i64.wrap (IntKind.i64.wrap ((ys.length : Int) - 1) - (k : Int)) = (ys.length : Int) - 1 - (k : Int) := fun h => by rw [hw1]; exact IntWalk.i64_in _ (by omega)
      have hfail : k < ys.length → (bx xs ((k : Int) + 1) ≠ bx ys ((k : Int) + 1) ∧ bx xs ((k : Int) + 1) ≠ 1 ∧ bx ys ((k : Int) + 1) ≠ 1) → jL xs ys = [] ∧ false = jOk xs ys := fun h1 h2 => j_f (fun h => h.2.2 (ys.length - 1 - k) (by rw [hN]; omega) (by
        rw [hN, show ((ys.length : Int) - ((ys.length - 1 - k : Nat) : Int)) = (k : Int) + 1 by omega]; exact h2))
      have hstep : ∀ z, k < ys.length → z = jn xs ys ((k : Int) + 1) → ¬ (bx xs ((k : Int) + 1) ≠ bx ys ((k : Int) + 1) ∧ bx xs ((k : Int) + 1) ≠ 1 ∧ bx ys ((k : Int) + 1) ≠ 1) → k + 1 ≤ ys.length ∧ (ws.set (IntKind.i64.wrap (IntKind.i64.wrap ((ys.length : Int) - 1) - (k : Int))).toNat z).length = ys.length ∧ ∀ j, ys.length - (k + 1) ≤ j → j < ys.length → (ws.set (IntKind.i64.wrap (IntKind.i64.wrap ((ys.length : Int) - 1) - (k : Int))).toNat z).getD j 0 = jn xs ys ((ys.length : Int) - (j : Int)) ∧ ¬ bad xs ys ((ys.length : Int) - (j : Int)) := fun z h1 h2 h3 => by
        have hi : (IntKind.i64.wrap (IntKind.i64.wrap ((ys.length : Int) - 1) - (k : Int))).toNat = ys.length - 1 - k := by rw [hw2 h1]; omega
        rw [hi]
        refine ⟨h1, by simpa using hl, fun j hj hj' => ?_⟩
        rw [getD_set (by omega)]
        split
        · rename_i e
          have e' : (ys.length : Int) - (j : Int) = (k : Int) + 1 := by omega
          rw [e']; exact ⟨h2, h3⟩
        · exact hall j (by omega) hj'
      have hend : k = ys.length → jL xs ys = ws ∧ true = jOk xs ys := fun e => by
        have e1 : ws = joined xs ys := getD_ext (by rw [joined_length, hN, hl]) fun j hj => by
          rw [joined_length, hN] at hj
          rw [(hall j (by omega) hj).1, joined_getD (by rw [hN]; exact hj), hN]
        rw [e1]
        exact j_t hx hy (fun j hj => by rw [hN] at hj ⊢; exact (hall j (by omega) hj).2)
      clear hall
      by_cases hkN : k < ys.length
      · have hw2 := hw2 hkN
        conv => whnf
        repeat' (first
          | (refine aIf_t ?_; conv => whnf)
          | (refine aIf_f ?_; conv => whnf)
          | (refine fun (_ : _ ≤ maxLen) => ?_; conv => whnf)
          | (refine get_nat0 (by omega) ?_; conv => whnf)
          | (refine get_int0 (by omega) ?_; conv => whnf)
          | (refine get_nat (by omega) ?_; conv => whnf)
          | (refine get_int (by omega) ?_; conv => whnf)
          | (refine aGet_in rfl ?_; conv => whnf)
          | (refine And.intro (And.intro (Int.le_refl _) (And.intro (by kernel_rfl) (And.intro rfl (by kernel_rfl)))) (And.intro (And.intro (by omega) (And.intro (bytes_le (b := 8) rfl (by omega)) (by omega))) ?_); conv => whnf)
          | (refine And.intro (by omega) ?_; conv => whnf)
          | (refine load_same ?_; conv => whnf)
          | (refine And.intro (by rw [List.length_map]; omega) ?_; conv => whnf)
          | (refine And.intro rfl (And.intro (List.cons_ne_nil _ _) ?_); conv => whnf)
          | (refine And.intro (Nat.le_of_ble_eq_true rfl) ?_; conv => whnf)
          | (refine callG_t ?_; conv => whnf)
          | (refine And.intro (And.intro (Int.le_refl _) (And.intro (by kernel_rfl) (And.intro rfl (by kernel_rfl)))) (And.intro (And.intro (by omega) (And.intro (bytes_le (b := 24) rfl (by omega)) (by omega))) ?_); conv => whnf)
          | (refine And.intro (And.intro (Int.le_refl _) (And.intro (by kernel_rfl) (And.intro rfl (by kernel_rfl)))) (And.intro (And.intro (by omega) (And.intro (bytes_le (b := 48) rfl (by omega)) (by omega))) ?_); conv => whnf)
          | (refine takeN_in ?_; conv => whnf)
          | (refine And.intro (pureL_ints _ _) ?_; conv => whnf)
          | (refine cut_ints ?_; conv => whnf)
          | (refine cut_all rfl (scalL_ints _ _) ?_; conv => whnf)
          | (refine cut_all (by simp only [List.length_map]; omega) (scalL_ints _ _) ?_; conv => whnf)
          | (refine l1Axis_call (by omega) ?_; conv => whnf)
          | (refine And.intro rfl (And.intro rfl (And.intro (by first | omega | (rw [List.length_map]; omega)) ?_)); conv => whnf)
          | (refine set_nat ?_ (by omega); conv => whnf)
          | (refine set_int ?_ (by omega); conv => whnf)
          | (refine set_bool ?_ (by omega); conv => whnf)
          | (refine set_force ?_; conv => whnf)
          | (refine get_bool0 (by omega) ?_; conv => whnf)
          | (refine And.intro (And.intro (Int.le_refl _) (And.intro (by kernel_rfl) (And.intro rfl (by kernel_rfl)))) (And.intro (And.intro (by omega) (And.intro (bytes_le (b := 1) rfl (by omega)) (by omega))) ?_); conv => whnf)
          | (refine And.intro (And.intro (by kernel_rfl) (And.intro rfl (Nat.le_of_ble_eq_true rfl))) ?_; conv => whnf)
          | (refine And.intro (And.intro (by kernel_rfl) (by kernel_rfl)) ?_; conv => whnf)
          | (refine And.intro (by kernel_rfl) ?_; conv => whnf)
          | (refine aIf_tt (by assumption) ?_; conv => whnf)
          | (refine aIf_ff (by assumption) ?_; conv => whnf)
          | refine aIf_eqt ?_
          | refine aIf_eqf ?_
          | refine aIf_not ?_
          | (refine aIf_bself ?_; conv => whnf)
          | (refine aIf_beself ?_; conv => whnf)
          | (refine aIf_iself ?_; conv => whnf)
          | (refine aIf_decself ?_; conv => whnf)
          | (refine aIf_dec (fun _ => ?_) (fun _ => ?_) <;> conv => whnf)
          | (refine aIf_beq (fun _ => ?_) (fun _ => ?_) <;> conv => whnf)
          | (refine aIf_bne (fun _ => ?_) (fun _ => ?_) <;> conv => whnf)
          | (refine aIf_bbne (fun _ => ?_) (fun _ => ?_) <;> conv => whnf)
          | (refine aIf_bbeq (fun _ => ?_) (fun _ => ?_) <;> conv => whnf)
          | (refine aIf_in (fun _ => ?_) (fun _ => ?_) <;> conv => whnf))
        all_goals (first
        | exact j_end (hfail (by omega) (And.intro (by assumption) (And.intro (by assumption) (by assumption)))) rfl rfl rfl rfl
        | (refine next_in (k + 1, ws.set (IntKind.i64.wrap (IntKind.i64.wrap ((ys.length : Int) - 1) - (k : Int))).toNat (bx ys ((k : Int) + 1))) (show ys.length - (k + 1) < ys.length - k by omega) (hstep _ (by omega) (if_pos (by assumption)).symm (by first | exact fun h => h.1 (by assumption) | exact fun h => h.2.1 (by assumption) | exact fun h => h.2.2 (by assumption))) ?_
           repeat' (first
             | exact trivial
             | exact rfl
             | exact pureL_ints _ _
             | exact pureL_bools _
             | exact Or.inl (And.intro rfl rfl)
             | exact le_ints rfl
             | exact le_ints (rep_ints _ _)
             | exact le_bools rfl
             | exact le_bools (rep_bools _)
             | refine le_ints ?_
             | refine Or.inr ?_
             | refine And.intro ?_ ?_
             | exact Nat.le_of_ble_eq_true rfl
             | exact Nat.zero_le _
             | exact int_eq (by assumption)
             | exact int_eq (by omega)
             | exact int_eq (Int.add_zero _).symm
             | exact List.length_append
             | exact int_eq (by rw [IntWalk.i64_in _ (by omega)] <;> omega))
           done)
        | (refine next_in (k + 1, ws.set (IntKind.i64.wrap (IntKind.i64.wrap ((ys.length : Int) - 1) - (k : Int))).toNat (bx xs ((k : Int) + 1))) (show ys.length - (k + 1) < ys.length - k by omega) (hstep _ (by omega) (if_neg (by assumption)).symm (by first | exact fun h => h.1 (by assumption) | exact fun h => h.2.1 (by assumption) | exact fun h => h.2.2 (by assumption))) ?_
           repeat' (first
             | exact trivial
             | exact rfl
             | exact pureL_ints _ _
             | exact pureL_bools _
             | exact Or.inl (And.intro rfl rfl)
             | exact le_ints rfl
             | exact le_ints (rep_ints _ _)
             | exact le_bools rfl
             | exact le_bools (rep_bools _)
             | refine le_ints ?_
             | refine Or.inr ?_
             | refine And.intro ?_ ?_
             | exact Nat.le_of_ble_eq_true rfl
             | exact Nat.zero_le _
             | exact int_eq (by assumption)
             | exact int_eq (by omega)
             | exact int_eq (Int.add_zero _).symm
             | exact List.length_append
             | exact int_eq (by rw [IntWalk.i64_in _ (by omega)] <;> omega))
           done)
        | (exfalso; omega))
      · conv => whnf
        repeat' (first
          | (refine aIf_t ?_; conv => whnf)
          | (refine aIf_f ?_; conv => whnf)
          | (refine fun (_ : _ ≤ maxLen) => ?_; conv => whnf)
          | (refine get_nat0 (by omega) ?_; conv => whnf)
          | (refine get_int0 (by omega) ?_; conv => whnf)
          | (refine get_nat (by omega) ?_; conv => whnf)
          | (refine get_int (by omega) ?_; conv => whnf)
          | (refine aGet_in rfl ?_; conv => whnf)
          | (refine And.intro (And.intro (Int.le_refl _) (And.intro (by kernel_rfl) (And.intro rfl (by kernel_rfl)))) (And.intro (And.intro (by omega) (And.intro (bytes_le (b := 8) rfl (by omega)) (by omega))) ?_); conv => whnf)
          | (refine And.intro (by omega) ?_; conv => whnf)
          | (refine load_same ?_; conv => whnf)
          | (refine And.intro (by rw [List.length_map]; omega) ?_; conv => whnf)
          | (refine And.intro rfl (And.intro (List.cons_ne_nil _ _) ?_); conv => whnf)
          | (refine And.intro (Nat.le_of_ble_eq_true rfl) ?_; conv => whnf)
          | (refine callG_t ?_; conv => whnf)
          | (refine And.intro (And.intro (Int.le_refl _) (And.intro (by kernel_rfl) (And.intro rfl (by kernel_rfl)))) (And.intro (And.intro (by omega) (And.intro (bytes_le (b := 24) rfl (by omega)) (by omega))) ?_); conv => whnf)
          | (refine And.intro (And.intro (Int.le_refl _) (And.intro (by kernel_rfl) (And.intro rfl (by kernel_rfl)))) (And.intro (And.intro (by omega) (And.intro (bytes_le (b := 48) rfl (by omega)) (by omega))) ?_); conv => whnf)
          | (refine takeN_in ?_; conv => whnf)
          | (refine And.intro (pureL_ints _ _) ?_; conv => whnf)
          | (refine cut_ints ?_; conv => whnf)
          | (refine cut_all rfl (scalL_ints _ _) ?_; conv => whnf)
          | (refine cut_all (by simp only [List.length_map]; omega) (scalL_ints _ _) ?_; conv => whnf)
          | (refine l1Axis_call (by omega) ?_; conv => whnf)
          | (refine And.intro rfl (And.intro rfl (And.intro (by first | omega | (rw [List.length_map]; omega)) ?_)); conv => whnf)
          | (refine set_nat ?_ (by omega); conv => whnf)
          | (refine set_int ?_ (by omega); conv => whnf)
          | (refine set_bool ?_ (by omega); conv => whnf)
          | (refine set_force ?_; conv => whnf)
          | (refine get_bool0 (by omega) ?_; conv => whnf)
          | (refine And.intro (And.intro (Int.le_refl _) (And.intro (by kernel_rfl) (And.intro rfl (by kernel_rfl)))) (And.intro (And.intro (by omega) (And.intro (bytes_le (b := 1) rfl (by omega)) (by omega))) ?_); conv => whnf)
          | (refine And.intro (And.intro (by kernel_rfl) (And.intro rfl (Nat.le_of_ble_eq_true rfl))) ?_; conv => whnf)
          | (refine And.intro (And.intro (by kernel_rfl) (by kernel_rfl)) ?_; conv => whnf)
          | (refine And.intro (by kernel_rfl) ?_; conv => whnf)
          | (refine aIf_tt (by assumption) ?_; conv => whnf)
          | (refine aIf_ff (by assumption) ?_; conv => whnf)
          | refine aIf_eqt ?_
          | refine aIf_eqf ?_
          | refine aIf_not ?_
          | (refine aIf_bself ?_; conv => whnf)
          | (refine aIf_beself ?_; conv => whnf)
          | (refine aIf_iself ?_; conv => whnf)
          | (refine aIf_decself ?_; conv => whnf)
          | (refine aIf_dec (fun _ => ?_) (fun _ => ?_) <;> conv => whnf)
          | (refine aIf_beq (fun _ => ?_) (fun _ => ?_) <;> conv => whnf)
          | (refine aIf_bne (fun _ => ?_) (fun _ => ?_) <;> conv => whnf)
          | (refine aIf_bbne (fun _ => ?_) (fun _ => ?_) <;> conv => whnf)
          | (refine aIf_bbeq (fun _ => ?_) (fun _ => ?_) <;> conv => whnf)
          | (refine aIf_in (fun _ => ?_) (fun _ => ?_) <;> conv => whnf))
        all_goals (first
        | (exfalso; omega)
        | exact j_end (hend (by omega)) rfl rfl rfl hl.symm)
  · have hN : jN xs ys = xs.length := by unfold jN; omega
    have hw1 : IntKind.i64.wrap ((xs.length : Int) - 1) = (xs.length : Int) - 1 := IntWalk.i64_in _ (by omega)
    refine loop_in (ι := Nat × List Int) (fun | (k, ws) => ⟨[.sl c xs.length (xs.map (.int .i64)), .sl d ys.length (ys.map (.int .i64)), .un, .un, .un, .un, .int .i64 xs.length, .ref 1 2 0 xs.length, .int .i64 k, .un, .un, .un, .un, .un, .un, .un, .un, .un, .un, .un, .un, .un, .un, .un, .un, .un, .un, .un, .un, .un, .un, .un, .un, .un, .un, .un, .un, .un, .un, .un, .un, .un, .un, .un, .un, .un, .un, .un, .un, .un, .un, .un, .un, .un, .un], [⟨1, 3, 1, []⟩, ⟨2, 3, 1, ws.map (.int .i64)⟩], 3, 0⟩)
      (fun x => x.1 ≤ xs.length ∧ x.2.length = xs.length ∧ ∀ j, xs.length - x.1 ≤ j → j < xs.length → x.2.getD j 0 = jn xs ys ((xs.length : Int) - (j : Int)) ∧ ¬ bad xs ys ((xs.length : Int) - (j : Int))) (fun x => xs.length - x.1) (0, List.replicate xs.length 0) ⟨Nat.zero_le _, by simp, fun j h1 h2 => absurd h1 (by simp only [Nat.sub_zero]; omega)⟩ ?_ ?_
    · repeat' (first
        | exact trivial
        | exact rfl
        | exact pureL_ints _ _
        | exact pureL_bools _
        | exact Or.inl (And.intro rfl rfl)
        | exact le_ints rfl
        | exact le_ints (rep_ints _ _)
        | exact le_bools rfl
        | exact le_bools (rep_bools _)
        | refine le_ints ?_
        | refine Or.inr ?_
        | refine And.intro ?_ ?_
        | exact Nat.le_of_ble_eq_true rfl
        | exact Nat.zero_le _
        | exact int_eq (by assumption)
        | exact int_eq (by omega)
        | exact int_eq (Int.add_zero _).symm
        | exact List.length_append
        | exact int_eq (by rw [IntWalk.i64_in _ (by omega)] <;> omega))
    · rintro ⟨k, ws⟩ ⟨hk, hl, hall⟩
      have hk : k ≤ xs.length := hk
      have hl : ws.length = xs.length := hl
      have hall : ∀ j, xs.length - k ≤ j → j < xs.length → ws.getD j 0 = jn xs ys ((xs.length : Int) - (j : Int)) ∧ ¬ bad xs ys ((xs.length : Int) - (j : Int)) := hall
      have hw2 : k < xs.length → IntKind.i64.wrap (IntKind.i64.wrap ((xs.length : Int) - 1) - (k : Int)) = (xs.length : Int) - 1 - (k : Int) := fun h => by rw [hw1]; exact IntWalk.i64_in _ (by omega)
      have hfail : k < xs.length → (bx xs ((k : Int) + 1) ≠ bx ys ((k : Int) + 1) ∧ bx xs ((k : Int) + 1) ≠ 1 ∧ bx ys ((k : Int) + 1) ≠ 1) → jL xs ys = [] ∧ false = jOk xs ys := fun h1 h2 => j_f (fun h => h.2.2 (xs.length - 1 - k) (by rw [hN]; omega) (by
        rw [hN, show ((xs.length : Int) - ((xs.length - 1 - k : Nat) : Int)) = (k : Int) + 1 by omega]; exact h2))
      have hstep : ∀ z, k < xs.length → z = jn xs ys ((k : Int) + 1) → ¬ (bx xs ((k : Int) + 1) ≠ bx ys ((k : Int) + 1) ∧ bx xs ((k : Int) + 1) ≠ 1 ∧ bx ys ((k : Int) + 1) ≠ 1) → k + 1 ≤ xs.length ∧ (ws.set (IntKind.i64.wrap (IntKind.i64.wrap ((xs.length : Int) - 1) - (k : Int))).toNat z).length = xs.length ∧ ∀ j, xs.length - (k + 1) ≤ j → j < xs.length → (ws.set (IntKind.i64.wrap (IntKind.i64.wrap ((xs.length : Int) - 1) - (k : Int))).toNat z).getD j 0 = jn xs ys ((xs.length : Int) - (j : Int)) ∧ ¬ bad xs ys ((xs.length : Int) - (j : Int)) := fun z h1 h2 h3 => by
        have hi : (IntKind.i64.wrap (IntKind.i64.wrap ((xs.length : Int) - 1) - (k : Int))).toNat = xs.length - 1 - k := by rw [hw2 h1]; omega
        rw [hi]
        refine ⟨h1, by simpa using hl, fun j hj hj' => ?_⟩
        rw [getD_set (by omega)]
        split
        · rename_i e
          have e' : (xs.length : Int) - (j : Int) = (k : Int) + 1 := by omega
          rw [e']; exact ⟨h2, h3⟩
        · exact hall j (by omega) hj'
      have hend : k = xs.length → jL xs ys = ws ∧ true = jOk xs ys := fun e => by
        have e1 : ws = joined xs ys := getD_ext (by rw [joined_length, hN, hl]) fun j hj => by
          rw [joined_length, hN] at hj
          rw [(hall j (by omega) hj).1, joined_getD (by rw [hN]; exact hj), hN]
        rw [e1]
        exact j_t hx hy (fun j hj => by rw [hN] at hj ⊢; exact (hall j (by omega) hj).2)
      clear hall
      by_cases hkN : k < xs.length
      · have hw2 := hw2 hkN
        conv => whnf
        repeat' (first
          | (refine aIf_t ?_; conv => whnf)
          | (refine aIf_f ?_; conv => whnf)
          | (refine fun (_ : _ ≤ maxLen) => ?_; conv => whnf)
          | (refine get_nat0 (by omega) ?_; conv => whnf)
          | (refine get_int0 (by omega) ?_; conv => whnf)
          | (refine get_nat (by omega) ?_; conv => whnf)
          | (refine get_int (by omega) ?_; conv => whnf)
          | (refine aGet_in rfl ?_; conv => whnf)
          | (refine And.intro (And.intro (Int.le_refl _) (And.intro (by kernel_rfl) (And.intro rfl (by kernel_rfl)))) (And.intro (And.intro (by omega) (And.intro (bytes_le (b := 8) rfl (by omega)) (by omega))) ?_); conv => whnf)
          | (refine And.intro (by omega) ?_; conv => whnf)
          | (refine load_same ?_; conv => whnf)
          | (refine And.intro (by rw [List.length_map]; omega) ?_; conv => whnf)
          | (refine And.intro rfl (And.intro (List.cons_ne_nil _ _) ?_); conv => whnf)
          | (refine And.intro (Nat.le_of_ble_eq_true rfl) ?_; conv => whnf)
          | (refine callG_t ?_; conv => whnf)
          | (refine And.intro (And.intro (Int.le_refl _) (And.intro (by kernel_rfl) (And.intro rfl (by kernel_rfl)))) (And.intro (And.intro (by omega) (And.intro (bytes_le (b := 24) rfl (by omega)) (by omega))) ?_); conv => whnf)
          | (refine And.intro (And.intro (Int.le_refl _) (And.intro (by kernel_rfl) (And.intro rfl (by kernel_rfl)))) (And.intro (And.intro (by omega) (And.intro (bytes_le (b := 48) rfl (by omega)) (by omega))) ?_); conv => whnf)
          | (refine takeN_in ?_; conv => whnf)
          | (refine And.intro (pureL_ints _ _) ?_; conv => whnf)
          | (refine cut_ints ?_; conv => whnf)
          | (refine cut_all rfl (scalL_ints _ _) ?_; conv => whnf)
          | (refine cut_all (by simp only [List.length_map]; omega) (scalL_ints _ _) ?_; conv => whnf)
          | (refine l1Axis_call (by omega) ?_; conv => whnf)
          | (refine And.intro rfl (And.intro rfl (And.intro (by first | omega | (rw [List.length_map]; omega)) ?_)); conv => whnf)
          | (refine set_nat ?_ (by omega); conv => whnf)
          | (refine set_int ?_ (by omega); conv => whnf)
          | (refine set_bool ?_ (by omega); conv => whnf)
          | (refine set_force ?_; conv => whnf)
          | (refine get_bool0 (by omega) ?_; conv => whnf)
          | (refine And.intro (And.intro (Int.le_refl _) (And.intro (by kernel_rfl) (And.intro rfl (by kernel_rfl)))) (And.intro (And.intro (by omega) (And.intro (bytes_le (b := 1) rfl (by omega)) (by omega))) ?_); conv => whnf)
          | (refine And.intro (And.intro (by kernel_rfl) (And.intro rfl (Nat.le_of_ble_eq_true rfl))) ?_; conv => whnf)
          | (refine And.intro (And.intro (by kernel_rfl) (by kernel_rfl)) ?_; conv => whnf)
          | (refine And.intro (by kernel_rfl) ?_; conv => whnf)
          | (refine aIf_tt (by assumption) ?_; conv => whnf)
          | (refine aIf_ff (by assumption) ?_; conv => whnf)
          | refine aIf_eqt ?_
          | refine aIf_eqf ?_
          | refine aIf_not ?_
          | (refine aIf_bself ?_; conv => whnf)
          | (refine aIf_beself ?_; conv => whnf)
          | (refine aIf_iself ?_; conv => whnf)
          | (refine aIf_decself ?_; conv => whnf)
          | (refine aIf_dec (fun _ => ?_) (fun _ => ?_) <;> conv => whnf)
          | (refine aIf_beq (fun _ => ?_) (fun _ => ?_) <;> conv => whnf)
          | (refine aIf_bne (fun _ => ?_) (fun _ => ?_) <;> conv => whnf)
          | (refine aIf_bbne (fun _ => ?_) (fun _ => ?_) <;> conv => whnf)
          | (refine aIf_bbeq (fun _ => ?_) (fun _ => ?_) <;> conv => whnf)
          | (refine aIf_in (fun _ => ?_) (fun _ => ?_) <;> conv => whnf))
        all_goals (first
        | exact j_end (hfail (by omega) (And.intro (by assumption) (And.intro (by assumption) (by assumption)))) rfl rfl rfl rfl
        | (refine next_in (k + 1, ws.set (IntKind.i64.wrap (IntKind.i64.wrap ((xs.length : Int) - 1) - (k : Int))).toNat (bx ys ((k : Int) + 1))) (show xs.length - (k + 1) < xs.length - k by omega) (hstep _ (by omega) (if_pos (by assumption)).symm (by first | exact fun h => h.1 (by assumption) | exact fun h => h.2.1 (by assumption) | exact fun h => h.2.2 (by assumption))) ?_
           repeat' (first
             | exact trivial
             | exact rfl
             | exact pureL_ints _ _
             | exact pureL_bools _
             | exact Or.inl (And.intro rfl rfl)
             | exact le_ints rfl
             | exact le_ints (rep_ints _ _)
             | exact le_bools rfl
             | exact le_bools (rep_bools _)
             | refine le_ints ?_
             | refine Or.inr ?_
             | refine And.intro ?_ ?_
             | exact Nat.le_of_ble_eq_true rfl
             | exact Nat.zero_le _
             | exact int_eq (by assumption)
             | exact int_eq (by omega)
             | exact int_eq (Int.add_zero _).symm
             | exact List.length_append
             | exact int_eq (by rw [IntWalk.i64_in _ (by omega)] <;> omega))
           done)
        | (refine next_in (k + 1, ws.set (IntKind.i64.wrap (IntKind.i64.wrap ((xs.length : Int) - 1) - (k : Int))).toNat (bx xs ((k : Int) + 1))) (show xs.length - (k + 1) < xs.length - k by omega) (hstep _ (by omega) (if_neg (by assumption)).symm (by first | exact fun h => h.1 (by assumption) | exact fun h => h.2.1 (by assumption) | exact fun h => h.2.2 (by assumption))) ?_
           repeat' (first
             | exact trivial
             | exact rfl
             | exact pureL_ints _ _
             | exact pureL_bools _
             | exact Or.inl (And.intro rfl rfl)
             | exact le_ints rfl
             | exact le_ints (rep_ints _ _)
             | exact le_bools rfl
             | exact le_bools (rep_bools _)
             | refine le_ints ?_
             | refine Or.inr ?_
             | refine And.intro ?_ ?_
             | exact Nat.le_of_ble_eq_true rfl
             | exact Nat.zero_le _
             | exact int_eq (by assumption)
             | exact int_eq (by omega)
             | exact int_eq (Int.add_zero _).symm
             | exact List.length_append
             | exact int_eq (by rw [IntWalk.i64_in _ (by omega)] <;> omega))
           done)
        | (exfalso; omega))
      · conv => whnf
        repeat' (first
          | (refine aIf_t ?_; conv => whnf)
          | (refine aIf_f ?_; conv => whnf)
          | (refine fun (_ : _ ≤ maxLen) => ?_; conv => whnf)
          | (refine get_nat0 (by omega) ?_; conv => whnf)
          | (refine get_int0 (by omega) ?_; conv => whnf)
          | (refine get_nat (by omega) ?_; conv => whnf)
          | (refine get_int (by omega) ?_; conv => whnf)
          | (refine aGet_in rfl ?_; conv => whnf)
          | (refine And.intro (And.intro (Int.le_refl _) (And.intro (by kernel_rfl) (And.intro rfl (by kernel_rfl)))) (And.intro (And.intro (by omega) (And.intro (bytes_le (b := 8) rfl (by omega)) (by omega))) ?_); conv => whnf)
          | (refine And.intro (by omega) ?_; conv => whnf)
          | (refine load_same ?_; conv => whnf)
          | (refine And.intro (by rw [List.length_map]; omega) ?_; conv => whnf)
          | (refine And.intro rfl (And.intro (List.cons_ne_nil _ _) ?_); conv => whnf)
          | (refine And.intro (Nat.le_of_ble_eq_true rfl) ?_; conv => whnf)
          | (refine callG_t ?_; conv => whnf)
          | (refine And.intro (And.intro (Int.le_refl _) (And.intro (by kernel_rfl) (And.intro rfl (by kernel_rfl)))) (And.intro (And.intro (by omega) (And.intro (bytes_le (b := 24) rfl (by omega)) (by omega))) ?_); conv => whnf)
          | (refine And.intro (And.intro (Int.le_refl _) (And.intro (by kernel_rfl) (And.intro rfl (by kernel_rfl)))) (And.intro (And.intro (by omega) (And.intro (bytes_le (b := 48) rfl (by omega)) (by omega))) ?_); conv => whnf)
          | (refine takeN_in ?_; conv => whnf)
          | (refine And.intro (pureL_ints _ _) ?_; conv => whnf)
          | (refine cut_ints ?_; conv => whnf)
          | (refine cut_all rfl (scalL_ints _ _) ?_; conv => whnf)
          | (refine cut_all (by simp only [List.length_map]; omega) (scalL_ints _ _) ?_; conv => whnf)
          | (refine l1Axis_call (by omega) ?_; conv => whnf)
          | (refine And.intro rfl (And.intro rfl (And.intro (by first | omega | (rw [List.length_map]; omega)) ?_)); conv => whnf)
          | (refine set_nat ?_ (by omega); conv => whnf)
          | (refine set_int ?_ (by omega); conv => whnf)
          | (refine set_bool ?_ (by omega); conv => whnf)
          | (refine set_force ?_; conv => whnf)
          | (refine get_bool0 (by omega) ?_; conv => whnf)
          | (refine And.intro (And.intro (Int.le_refl _) (And.intro (by kernel_rfl) (And.intro rfl (by kernel_rfl)))) (And.intro (And.intro (by omega) (And.intro (bytes_le (b := 1) rfl (by omega)) (by omega))) ?_); conv => whnf)
          | (refine And.intro (And.intro (by kernel_rfl) (And.intro rfl (Nat.le_of_ble_eq_true rfl))) ?_; conv => whnf)
          | (refine And.intro (And.intro (by kernel_rfl) (by kernel_rfl)) ?_; conv => whnf)
          | (refine And.intro (by kernel_rfl) ?_; conv => whnf)
          | (refine aIf_tt (by assumption) ?_; conv => whnf)
          | (refine aIf_ff (by assumption) ?_; conv => whnf)
          | refine aIf_eqt ?_
          | refine aIf_eqf ?_
          | refine aIf_not ?_
          | (refine aIf_bself ?_; conv => whnf)
          | (refine aIf_beself ?_; conv => whnf)
          | (refine aIf_iself ?_; conv => whnf)
          | (refine aIf_decself ?_; conv => whnf)
          | (refine aIf_dec (fun _ => ?_) (fun _ => ?_) <;> conv => whnf)
          | (refine aIf_beq (fun _ => ?_) (fun _ => ?_) <;> conv => whnf)
          | (refine aIf_bne (fun _ => ?_) (fun _ => ?_) <;> conv => whnf)
          | (refine aIf_bbne (fun _ => ?_) (fun _ => ?_) <;> conv => whnf)
          | (refine aIf_bbeq (fun _ => ?_) (fun _ => ?_) <;> conv => whnf)
          | (refine aIf_in (fun _ => ?_) (fun _ => ?_) <;> conv => whnf))
        all_goals (first
        | (exfalso; omega)
        | exact j_end (hend (by omega)) rfl rfl rfl hl.symm)

theorem jL_le6 (xs ys : List Int) : (jL xs ys).length ≤ 6 := by
  by_cases h : jOk xs ys = true
  · have h' := (jOk_iff xs ys).1 h
    have h1 := ((shapeOk_iff xs).1 h'.1).1
    have h2 := ((shapeOk_iff ys).1 h'.2.1).1
    have := jL_le xs ys
    omega
  · unfold jL; rw [if_neg h]; exact Nat.zero_le _
theorem l1Join_call {c d : Nat} {xs ys : List Int} {env : List AV} {rows : List Row} {ctr low : Nat} {k : AV → St → Prop} (hpre : shapeOk xs = true ∧ shapeOk ys = true) (hk : k (.tup [.ref rows.length ctr 0 (jL xs ys).length, .bool (jOk xs ys)]) ⟨env, rows ++ [⟨ctr, 3, 1, (jL xs ys).map (.int .i64)⟩], ctr + 1, low⟩) :
    CallB Try.prog 137 ⟨env, rows, ctr, low⟩ [.sl c xs.length (xs.map (.int .i64)), .sl d ys.length (ys.map (.int .i64))] k := callLB_in l1Join_sound (c, xs, d, ys) hpre hk
theorem iJoin_call {c d : Nat} {xs ys : List Int} {env : List AV} {rows : List Row} {ctr low : Nat} {k : AV → St → Prop} (hk : k (.tup [.ref rows.length ctr 0 (jL xs ys).length, .bool (jOk xs ys)]) ⟨env, rows ++ [⟨ctr, 3, 1, (jL xs ys).map (.int .i64)⟩], ctr + 1, low⟩) :
    CallB Try.prog 95 ⟨env, rows, ctr, low⟩ [.sl c xs.length (xs.map (.int .i64)), .sl d ys.length (ys.map (.int .i64))] k := callLB_in iJoin_sound (c, xs, d, ys) trivial hk

end Go.Proofs.Ytegoncendpboiaa
