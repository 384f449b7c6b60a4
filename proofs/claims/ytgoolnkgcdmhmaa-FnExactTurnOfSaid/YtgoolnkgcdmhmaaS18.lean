/- Chapter 2: TurnOf of the model. -/
import Derived.Test.YtgoolnkgcdmhmaaS17
import Derived.Test.YtgoolnkgcdmhmaaP22
namespace Go.Proofs.Ytgoolnkgcdmhmaa
open Go.RowKit Go.Am
attribute [local irreducible] aPlan aGet aIf aLoop aCall RetB NextB CallB CallG aCut aSet aAppend

def sL2Turn : CSpec := fnT (ι := Nat × List Int × Nat × List Int × Nat × List Int) 3 (fun | (c, xs, d, zs, e, ax) => [.agg [.sl c xs.length (xs.map (.int .i64)), .sl d zs.length (zs.map (.int .i64))], .sl e ax.length (ax.map (.int .i64))]) (fun | (_, xs, _, zs, _, ax) => tensorOk xs zs = true ∧ turnOk ax xs.length = true) (fun | (_, xs, _, _, _, ax) => turned xs ax) (fun | (_, xs, _, zs, _, ax) => rdL zs (turned xs ax) (turned (strides xs) ax) 0)
set_option maxHeartbeats 4000000 in
set_option maxRecDepth 10000 in
theorem l2Turn_sound : Sound Try.prog 77 sL2Turn := by
  refine sound_of Try.func77 rfl (enters_of Try.func77 (by kernel_rfl) (by kernel_rfl)) ?_
  rintro ⟨c, xs, d, zs, e, ax⟩ hpre
  have hpre : tensorOk xs zs = true ∧ turnOk ax xs.length = true := hpre
  obtain ⟨ht, hu⟩ := hpre
  obtain ⟨hs, t2, t3⟩ := (tensorOk_iff _ _).1 ht
  have hin := turnOk_in hu
  have hi2 : ax.length ≤ 3 ∧ ∀ k, k < ax.length → 0 ≤ ax.getD k 0 ∧ ax.getD k 0 < xs.length := ⟨by omega, hin.2⟩
  have hx := tensor_len ht
  have hmax : maxLen = 9223372036854775807 := rfl
  conv => whnf
  repeat' (first
    | (refine plan_in (id := 6) [0, 1, 2, 3, 4, 5, 6, 8, 11, 12, 13, 14, 15, 7, 9, 10, 16, 17] (by kernel_rfl) (by kernel_rfl) ?_; conv => whnf)
    | (refine aIf_t ?_; conv => whnf)
    | (refine aIf_f ?_; conv => whnf)
    | (refine fun (_ : _ ≤ maxLen) => ?_; conv => whnf)
    | (refine get_nat (by omega) ?_; conv => whnf)
    | (refine get_int (by omega) ?_; conv => whnf)
    | (refine get_nat0 (by omega) ?_; conv => whnf)
    | (refine get_int0 (by omega) ?_; conv => whnf)
    | (refine aGet_in rfl ?_; conv => whnf)
    | (refine And.intro (And.intro rfl (And.intro (by kernel_rfl) (And.intro rfl (by kernel_rfl)))) (And.intro (And.intro (by omega) (And.intro (bytes_le (b := 8) rfl (by omega)) (by omega))) ?_); conv => whnf)
    | (refine And.intro (by omega) ?_; conv => whnf)
    | (refine And.intro (by rw [List.length_map]; omega) ?_; conv => whnf)
    | (refine And.intro rfl (And.intro (List.cons_ne_nil _ _) ?_); conv => whnf)
    | (refine And.intro (Nat.le_of_ble_eq_true rfl) ?_; conv => whnf)
    | (refine callG_t ?_; conv => whnf)
    | (refine And.intro (pureL_ints _ _) ?_; conv => whnf)
    | (refine cut_ints ?_; conv => whnf)
    | (refine cut_marks ?_; conv => whnf)
    | (refine cut_all rfl (scalL_ints _ _) ?_; conv => whnf)
    | (refine cut_all (by simp only [List.length_map]; omega) (scalL_ints _ _) ?_; conv => whnf)
    | (refine l1Index_call (by assumption) ?_; conv => whnf)
    | (refine append_int rfl rfl (by first | rfl | (simp only [List.length_take, turned_length]; omega)) (by omega) (Nat.le_of_ble_eq_true rfl) ?_; conv => whnf)
    | (refine append_int3 rfl rfl rfl rfl (by omega) (Nat.le_of_ble_eq_true rfl) ?_; conv => whnf)
    | (refine l1Turn_call (by assumption) ?_; conv => whnf)
    | (refine l1Place_call (by assumption) ?_; conv => whnf)
    | (refine l1Index_n (by omega) (by omega) ?_; conv => whnf)
    | (refine And.intro rfl (And.intro rfl (And.intro (by first | omega | (rw [List.length_map]; omega)) ?_)); conv => whnf)
    | (refine set_nat ?_ (by omega); conv => whnf)
    | (refine set_int ?_ (by omega); conv => whnf)
    | (refine set_bool ?_ (by omega); conv => whnf)
    | (refine set_force ?_; conv => whnf)
    | (refine get_bool0 (by omega) ?_; conv => whnf)
    | (refine And.intro (And.intro rfl (And.intro (by kernel_rfl) (And.intro rfl (by kernel_rfl)))) (And.intro (And.intro (by omega) (And.intro (bytes_le (b := 1) rfl (by omega)) (by omega))) ?_); conv => whnf)
    | (refine And.intro (And.intro (by kernel_rfl) (And.intro rfl (Nat.le_of_ble_eq_true rfl))) ?_; conv => whnf)
    | (refine And.intro (And.intro (by kernel_rfl) (by kernel_rfl)) ?_; conv => whnf)
    | (refine And.intro (by kernel_rfl) ?_; conv => whnf)
    | (refine aIf_tt (by assumption) ?_; conv => whnf)
    | (refine aIf_ff (by assumption) ?_; conv => whnf)
    | refine aIf_eqt ?_
    | refine aIf_eqf ?_
    | refine aIf_not ?_
    | (refine aIf_bself ?_; conv => whnf)
    | (refine aIf_beself ?_; conv => whnf)
    | (refine aIf_iself ?_; conv => whnf)
    | (refine aIf_decself ?_; conv => whnf)
    | (refine aIf_dec (fun _ => ?_) (fun _ => ?_) <;> conv => whnf)
    | (refine aIf_beq (fun _ => ?_) (fun _ => ?_) <;> conv => whnf)
    | (refine aIf_bne (fun _ => ?_) (fun _ => ?_) <;> conv => whnf)
    | (refine aIf_bbne (fun _ => ?_) (fun _ => ?_) <;> conv => whnf)
    | (refine aIf_bbeq (fun _ => ?_) (fun _ => ?_) <;> conv => whnf)
    | (refine aIf_in (fun _ => ?_) (fun _ => ?_) <;> conv => whnf))
  refine loop_in (ι := Nat × List Int) (fun | (k, ws) => ⟨[.un, .sl e ax.length (ax.map (.int .i64)), .ptr 0 1 0, .un, .ptr 3 4 0, .ptr 8 9 0, .int .i64 k, .un, .un, .un, .un, .un, .un, .un, .un, .un, .un, .un, .un, .un, .un, .un, .un, .un, .un, .un, .un, .un, .un, .un, .un, .un, .un, .un, .un, .un, .un, .un, .un, .un, .un, .un], [bt 1 [.sl c xs.length (xs.map (.int .i64)), .sl d zs.length (zs.map (.int .i64))], nl 2, nl 3, bt 4 [.ref 1 2 0 0, .ref 2 3 0 0], li 5 (turned xs ax), nl 6, nl 7, nl 8, bt 9 [.ref 4 5 0 (turned xs ax).length, .ref 9 10 0 zs.length], li 10 ws], 11, 0⟩)
    (fun x => x.1 ≤ zs.length ∧ x.2.length = zs.length ∧ ∀ j, j < x.1 → x.2.getD (turnF xs ax j).toNat 0 = zs.getD j 0) (fun x => zs.length - x.1) (0, List.replicate zs.length 0) ⟨Nat.zero_le _, by simp, fun j hj => absurd hj (Nat.not_lt_zero _)⟩ ?_ ?_
  · repeat' (first
      | exact trivial
      | exact rfl
      | exact pureL_ints _ _
      | exact pureL_bools _
      | exact Or.inl (And.intro rfl rfl)
      | exact Or.inl (And.intro (pureL_box _ _) rfl)
      | exact le_ints rfl
      | exact le_ints (rep_ints _ _)
      | exact le_bools rfl
      | exact le_bools (rep_bools _)
      | exact Or.inl (And.intro (pureL_pair _ _ _ _ _ _) rfl)
      | refine le_ints ?_
      | refine Or.inr ?_
      | refine And.intro ?_ ?_
      | exact Nat.le_of_ble_eq_true rfl
      | exact Nat.zero_le _
      | exact int_eq (by assumption)
      | exact int_eq (by omega)
      | exact int_eq (Int.add_zero _).symm
      | exact List.length_append
      | exact int_eq (by rw [IntWalk.i64_in _ (by omega)] <;> omega))
  · rintro ⟨k, ws⟩ ⟨hk, hl, hall⟩
    have hk : k ≤ zs.length := hk
    have hl : ws.length = zs.length := hl
    have hall : ∀ j, j < k → ws.getD (turnF xs ax j).toNat 0 = zs.getD j 0 := hall
    have hf := turn_facts hs hu
    have hpl : (places xs k).length = xs.length := places_length _ _
    have hi3 : ax.length ≤ 3 ∧ ∀ j, j < ax.length → 0 ≤ ax.getD j 0 ∧ ax.getD j 0 < (places xs k).length := ⟨by omega, fun j hj => by rw [hpl]; exact hin.2 j hj⟩
    have hl1 : (turned (places xs k) ax).length = (turned xs ax).length := by rw [turned_length, turned_length]
    by_cases hlt : k < zs.length
    · obtain ⟨f1, f2, f3⟩ := hf.f k (by omega)
      have f4 : turnF xs ax k = idxTo (turned xs ax) (turned (places xs k) ax) (turned xs ax).length := rfl
      conv => whnf
      repeat' (first
        | (refine plan_in (id := 6) [0, 1, 2, 3, 4, 5, 6, 8, 11, 12, 13, 14, 15, 7, 9, 10, 16, 17] (by kernel_rfl) (by kernel_rfl) ?_; conv => whnf)
        | (refine aIf_t ?_; conv => whnf)
        | (refine aIf_f ?_; conv => whnf)
        | (refine fun (_ : _ ≤ maxLen) => ?_; conv => whnf)
        | (refine get_nat (by omega) ?_; conv => whnf)
        | (refine get_int (by omega) ?_; conv => whnf)
        | (refine get_nat0 (by omega) ?_; conv => whnf)
        | (refine get_int0 (by omega) ?_; conv => whnf)
        | (refine aGet_in rfl ?_; conv => whnf)
        | (refine And.intro (And.intro rfl (And.intro (by kernel_rfl) (And.intro rfl (by kernel_rfl)))) (And.intro (And.intro (by omega) (And.intro (bytes_le (b := 8) rfl (by omega)) (by omega))) ?_); conv => whnf)
        | (refine And.intro (by omega) ?_; conv => whnf)
        | (refine And.intro (by rw [List.length_map]; omega) ?_; conv => whnf)
        | (refine And.intro rfl (And.intro (List.cons_ne_nil _ _) ?_); conv => whnf)
        | (refine And.intro (Nat.le_of_ble_eq_true rfl) ?_; conv => whnf)
        | (refine callG_t ?_; conv => whnf)
        | (refine And.intro (pureL_ints _ _) ?_; conv => whnf)
        | (refine cut_ints ?_; conv => whnf)
        | (refine cut_marks ?_; conv => whnf)
        | (refine cut_all rfl (scalL_ints _ _) ?_; conv => whnf)
        | (refine cut_all (by simp only [List.length_map]; omega) (scalL_ints _ _) ?_; conv => whnf)
        | (refine l1Index_call (by assumption) ?_; conv => whnf)
        | (refine append_int rfl rfl (by first | rfl | (simp only [List.length_take, turned_length]; omega)) (by omega) (Nat.le_of_ble_eq_true rfl) ?_; conv => whnf)
        | (refine append_int3 rfl rfl rfl rfl (by omega) (Nat.le_of_ble_eq_true rfl) ?_; conv => whnf)
        | (refine l1Turn_call (by assumption) ?_; conv => whnf)
        | (refine l1Place_call (by assumption) ?_; conv => whnf)
        | (refine l1Index_n (by omega) (by omega) ?_; conv => whnf)
        | (refine And.intro rfl (And.intro rfl (And.intro (by first | omega | (rw [List.length_map]; omega)) ?_)); conv => whnf)
        | (refine set_nat ?_ (by omega); conv => whnf)
        | (refine set_int ?_ (by omega); conv => whnf)
        | (refine set_bool ?_ (by omega); conv => whnf)
        | (refine set_force ?_; conv => whnf)
        | (refine get_bool0 (by omega) ?_; conv => whnf)
        | (refine And.intro (And.intro rfl (And.intro (by kernel_rfl) (And.intro rfl (by kernel_rfl)))) (And.intro (And.intro (by omega) (And.intro (bytes_le (b := 1) rfl (by omega)) (by omega))) ?_); conv => whnf)
        | (refine And.intro (And.intro (by kernel_rfl) (And.intro rfl (Nat.le_of_ble_eq_true rfl))) ?_; conv => whnf)
        | (refine And.intro (And.intro (by kernel_rfl) (by kernel_rfl)) ?_; conv => whnf)
        | (refine And.intro (by kernel_rfl) ?_; conv => whnf)
        | (refine aIf_tt (by assumption) ?_; conv => whnf)
        | (refine aIf_ff (by assumption) ?_; conv => whnf)
        | refine aIf_eqt ?_
        | refine aIf_eqf ?_
        | refine aIf_not ?_
        | (refine aIf_bself ?_; conv => whnf)
        | (refine aIf_beself ?_; conv => whnf)
        | (refine aIf_iself ?_; conv => whnf)
        | (refine aIf_decself ?_; conv => whnf)
        | (refine aIf_dec (fun _ => ?_) (fun _ => ?_) <;> conv => whnf)
        | (refine aIf_beq (fun _ => ?_) (fun _ => ?_) <;> conv => whnf)
        | (refine aIf_bne (fun _ => ?_) (fun _ => ?_) <;> conv => whnf)
        | (refine aIf_bbne (fun _ => ?_) (fun _ => ?_) <;> conv => whnf)
        | (refine aIf_bbeq (fun _ => ?_) (fun _ => ?_) <;> conv => whnf)
        | (refine aIf_in (fun _ => ?_) (fun _ => ?_) <;> conv => whnf))
      all_goals (first | (exfalso; omega) | skip)
      rw [← f4]
      refine next_in (k + 1, ws.set (turnF xs ax k).toNat (zs.getD k 0)) (show zs.length - (k + 1) < zs.length - k by omega) ⟨(show k + 1 ≤ zs.length by omega), by simpa using hl, fun j hj => ?_⟩ ?_
      · have hj : j < k + 1 := hj
        show (ws.set (turnF xs ax k).toNat (zs.getD k 0)).getD (turnF xs ax j).toNat 0 = zs.getD j 0
        rw [getD_set (by omega)]
        by_cases e : j = k
        · subst e; rw [if_pos rfl]
        · obtain ⟨g1, g2, g3⟩ := hf.f j (by omega)
          rw [if_neg (fun e' => e (by rw [← e'] at g3; rw [f3] at g3; omega))]
          exact hall j (by omega)
      · repeat' (first
          | exact trivial
          | exact rfl
          | exact pureL_ints _ _
          | exact pureL_bools _
          | exact Or.inl (And.intro rfl rfl)
          | exact Or.inl (And.intro (pureL_box _ _) rfl)
          | exact le_ints rfl
          | exact le_ints (rep_ints _ _)
          | exact le_bools rfl
          | exact le_bools (rep_bools _)
          | exact Or.inl (And.intro (pureL_pair _ _ _ _ _ _) rfl)
          | refine le_ints ?_
          | refine Or.inr ?_
          | refine And.intro ?_ ?_
          | exact Nat.le_of_ble_eq_true rfl
          | exact Nat.zero_le _
          | exact int_eq (by assumption)
          | exact int_eq (by omega)
          | exact int_eq (Int.add_zero _).symm
          | exact List.length_append
          | exact int_eq (by rw [IntWalk.i64_in _ (by omega)] <;> omega))
    · conv => whnf
      repeat' (first
        | (refine plan_in (id := 6) [0, 1, 2, 3, 4, 5, 6, 8, 11, 12, 13, 14, 15, 7, 9, 10, 16, 17] (by kernel_rfl) (by kernel_rfl) ?_; conv => whnf)
        | (refine aIf_t ?_; conv => whnf)
        | (refine aIf_f ?_; conv => whnf)
        | (refine fun (_ : _ ≤ maxLen) => ?_; conv => whnf)
        | (refine get_nat (by omega) ?_; conv => whnf)
        | (refine get_int (by omega) ?_; conv => whnf)
        | (refine get_nat0 (by omega) ?_; conv => whnf)
        | (refine get_int0 (by omega) ?_; conv => whnf)
        | (refine aGet_in rfl ?_; conv => whnf)
        | (refine And.intro (And.intro rfl (And.intro (by kernel_rfl) (And.intro rfl (by kernel_rfl)))) (And.intro (And.intro (by omega) (And.intro (bytes_le (b := 8) rfl (by omega)) (by omega))) ?_); conv => whnf)
        | (refine And.intro (by omega) ?_; conv => whnf)
        | (refine And.intro (by rw [List.length_map]; omega) ?_; conv => whnf)
        | (refine And.intro rfl (And.intro (List.cons_ne_nil _ _) ?_); conv => whnf)
        | (refine And.intro (Nat.le_of_ble_eq_true rfl) ?_; conv => whnf)
        | (refine callG_t ?_; conv => whnf)
        | (refine And.intro (pureL_ints _ _) ?_; conv => whnf)
        | (refine cut_ints ?_; conv => whnf)
        | (refine cut_marks ?_; conv => whnf)
        | (refine cut_all rfl (scalL_ints _ _) ?_; conv => whnf)
        | (refine cut_all (by simp only [List.length_map]; omega) (scalL_ints _ _) ?_; conv => whnf)
        | (refine l1Index_call (by assumption) ?_; conv => whnf)
        | (refine append_int rfl rfl (by first | rfl | (simp only [List.length_take, turned_length]; omega)) (by omega) (Nat.le_of_ble_eq_true rfl) ?_; conv => whnf)
        | (refine append_int3 rfl rfl rfl rfl (by omega) (Nat.le_of_ble_eq_true rfl) ?_; conv => whnf)
        | (refine l1Turn_call (by assumption) ?_; conv => whnf)
        | (refine l1Place_call (by assumption) ?_; conv => whnf)
        | (refine l1Index_n (by omega) (by omega) ?_; conv => whnf)
        | (refine And.intro rfl (And.intro rfl (And.intro (by first | omega | (rw [List.length_map]; omega)) ?_)); conv => whnf)
        | (refine set_nat ?_ (by omega); conv => whnf)
        | (refine set_int ?_ (by omega); conv => whnf)
        | (refine set_bool ?_ (by omega); conv => whnf)
        | (refine set_force ?_; conv => whnf)
        | (refine get_bool0 (by omega) ?_; conv => whnf)
        | (refine And.intro (And.intro rfl (And.intro (by kernel_rfl) (And.intro rfl (by kernel_rfl)))) (And.intro (And.intro (by omega) (And.intro (bytes_le (b := 1) rfl (by omega)) (by omega))) ?_); conv => whnf)
        | (refine And.intro (And.intro (by kernel_rfl) (And.intro rfl (Nat.le_of_ble_eq_true rfl))) ?_; conv => whnf)
        | (refine And.intro (And.intro (by kernel_rfl) (by kernel_rfl)) ?_; conv => whnf)
        | (refine And.intro (by kernel_rfl) ?_; conv => whnf)
        | (refine aIf_tt (by assumption) ?_; conv => whnf)
        | (refine aIf_ff (by assumption) ?_; conv => whnf)
        | refine aIf_eqt ?_
        | refine aIf_eqf ?_
        | refine aIf_not ?_
        | (refine aIf_bself ?_; conv => whnf)
        | (refine aIf_beself ?_; conv => whnf)
        | (refine aIf_iself ?_; conv => whnf)
        | (refine aIf_decself ?_; conv => whnf)
        | (refine aIf_dec (fun _ => ?_) (fun _ => ?_) <;> conv => whnf)
        | (refine aIf_beq (fun _ => ?_) (fun _ => ?_) <;> conv => whnf)
        | (refine aIf_bne (fun _ => ?_) (fun _ => ?_) <;> conv => whnf)
        | (refine aIf_bbne (fun _ => ?_) (fun _ => ?_) <;> conv => whnf)
        | (refine aIf_bbeq (fun _ => ?_) (fun _ => ?_) <;> conv => whnf)
        | (refine aIf_in (fun _ => ?_) (fun _ => ?_) <;> conv => whnf))
      all_goals (first | (exfalso; omega) | skip)
      have e : ws = rdL zs (turned xs ax) (turned (strides xs) ax) 0 := getD_ext (by rw [rdL_length, hf.cnt]; omega) fun j hj => by
        rw [rdL_length, hf.cnt] at hj
        obtain ⟨g1, g2, g3⟩ := hf.g j (by omega)
        rw [rdL_getD (by rw [hf.cnt]; exact hj)]
        have h9 := hall (turnG xs ax j).toNat (by omega)
        rw [g3, Int.toNat_natCast] at h9
        exact h9
      subst e
      refine retT ?_ ?_ ?_ ?_ ?_
      all_goals (first | exact rfl | decide | (rw [rdL_length, hf.cnt]; omega) | (simp; done))
theorem l2Turn_call {c d e : Nat} {xs zs ax : List Int} {env : List AV} {rows : List Row} {ctr low : Nat} {k : AV → St → Prop} (hpre : tensorOk xs zs = true ∧ turnOk ax xs.length = true)
    (hk : k (.agg [.ref rows.length ctr 0 (turned xs ax).length, .ref (rows.length + 1) ctr 0 (rdL zs (turned xs ax) (turned (strides xs) ax) 0).length]) ⟨env, rows ++ [⟨ctr, 3, 1, (turned xs ax).map (.int .i64)⟩, ⟨ctr, 3, 1, (rdL zs (turned xs ax) (turned (strides xs) ax) 0).map (.int .i64)⟩], ctr + 1, low⟩) :
    CallB Try.prog 77 ⟨env, rows, ctr, low⟩ [.agg [.sl c xs.length (xs.map (.int .i64)), .sl d zs.length (zs.map (.int .i64))], .sl e ax.length (ax.map (.int .i64))] k := callT_in l2Turn_sound (c, xs, d, zs, e, ax) hpre hk
set_option maxRecDepth 10000 in
theorem sTurnOf_sound : Sound Try.prog 37 sTurnOf := by
  refine sound_of Try.func37 rfl (enters_of Try.func37 (by kernel_rfl) (by kernel_rfl)) ?_
  rintro ⟨c, xs, d, zs, e, ax⟩ hpre
  rcases tensor_or xs zs with ⟨ht, hx, hz⟩ | ht
  · by_cases hu : turnOk ax xs.length = true
    · conv => whnf
      repeat' (first
        | (refine aIf_t ?_; conv => whnf)
        | (refine aIf_f ?_; conv => whnf)
        | (refine fun (_ : _ ≤ maxLen) => ?_; conv => whnf)
        | (refine get_nat (by omega) ?_; conv => whnf)
        | (refine get_int (by omega) ?_; conv => whnf)
        | (refine get_nat0 (by omega) ?_; conv => whnf)
        | (refine get_int0 (by omega) ?_; conv => whnf)
        | (refine aGet_in rfl ?_; conv => whnf)
        | (refine And.intro (And.intro rfl (And.intro (by kernel_rfl) (And.intro rfl (by kernel_rfl)))) (And.intro (And.intro (by omega) (And.intro (bytes_le (b := 8) rfl (by omega)) (by omega))) ?_); conv => whnf)
        | (refine And.intro (by omega) ?_; conv => whnf)
        | (refine And.intro (by rw [List.length_map]; omega) ?_; conv => whnf)
        | (refine And.intro rfl (And.intro (List.cons_ne_nil _ _) ?_); conv => whnf)
        | (refine And.intro (Nat.le_of_ble_eq_true rfl) ?_; conv => whnf)
        | (refine callG_t ?_; conv => whnf)
        | (refine l2Turn_call (And.intro (by assumption) (by assumption)) ?_; conv => whnf)
        | (refine sTensorOk_call ?_; conv => whnf)
        | (refine And.intro (pureL_ints _ _) ?_; conv => whnf)
        | (refine cut_ints ?_; conv => whnf)
        | (refine cut_marks ?_; conv => whnf)
        | (refine cut_all rfl (scalL_ints _ _) ?_; conv => whnf)
        | (refine cut_all (by simp only [List.length_map]; omega) (scalL_ints _ _) ?_; conv => whnf)
        | (refine append_int rfl rfl (by first | rfl | (simp only [List.length_take, turned_length]; omega)) (by omega) (Nat.le_of_ble_eq_true rfl) ?_; conv => whnf)
        | (refine append_int3 rfl rfl rfl rfl (by omega) (Nat.le_of_ble_eq_true rfl) ?_; conv => whnf)
        | (refine And.intro rfl (And.intro rfl (And.intro (by first | omega | (rw [List.length_map]; omega)) ?_)); conv => whnf)
        | (refine set_nat ?_ (by omega); conv => whnf)
        | (refine set_int ?_ (by omega); conv => whnf)
        | (refine set_bool ?_ (by omega); conv => whnf)
        | (refine set_force ?_; conv => whnf)
        | (refine get_bool0 (by omega) ?_; conv => whnf)
        | (refine And.intro (And.intro rfl (And.intro (by kernel_rfl) (And.intro rfl (by kernel_rfl)))) (And.intro (And.intro (by omega) (And.intro (bytes_le (b := 1) rfl (by omega)) (by omega))) ?_); conv => whnf)
        | (refine sTurnOk_call ?_; conv => whnf)
        | (refine And.intro (And.intro (by kernel_rfl) (And.intro rfl (Nat.le_of_ble_eq_true rfl))) ?_; conv => whnf)
        | (refine And.intro (And.intro (by kernel_rfl) (by kernel_rfl)) ?_; conv => whnf)
        | (refine And.intro (by kernel_rfl) ?_; conv => whnf)
        | (refine aIf_tt (by assumption) ?_; conv => whnf)
        | (refine aIf_ff (by assumption) ?_; conv => whnf)
        | refine aIf_eqt ?_
        | refine aIf_eqf ?_
        | refine aIf_not ?_
        | (refine aIf_bself ?_; conv => whnf)
        | (refine aIf_beself ?_; conv => whnf)
        | (refine aIf_iself ?_; conv => whnf)
        | (refine aIf_decself ?_; conv => whnf)
        | (refine aIf_dec (fun _ => ?_) (fun _ => ?_) <;> conv => whnf)
        | (refine aIf_beq (fun _ => ?_) (fun _ => ?_) <;> conv => whnf)
        | (refine aIf_bne (fun _ => ?_) (fun _ => ?_) <;> conv => whnf)
        | (refine aIf_bbne (fun _ => ?_) (fun _ => ?_) <;> conv => whnf)
        | (refine aIf_bbeq (fun _ => ?_) (fun _ => ?_) <;> conv => whnf)
        | (refine aIf_in (fun _ => ?_) (fun _ => ?_) <;> conv => whnf))
      refine retTB (hM := turnM_t ht hu) ?_ ?_ ?_ ?_ ?_
      all_goals (first | exact rfl | decide | (simp; done))
    · have hu : turnOk ax xs.length = false := by simpa using hu
      conv => whnf
      repeat' (first
        | (refine aIf_t ?_; conv => whnf)
        | (refine aIf_f ?_; conv => whnf)
        | (refine fun (_ : _ ≤ maxLen) => ?_; conv => whnf)
        | (refine get_nat (by omega) ?_; conv => whnf)
        | (refine get_int (by omega) ?_; conv => whnf)
        | (refine get_nat0 (by omega) ?_; conv => whnf)
        | (refine get_int0 (by omega) ?_; conv => whnf)
        | (refine aGet_in rfl ?_; conv => whnf)
        | (refine And.intro (And.intro rfl (And.intro (by kernel_rfl) (And.intro rfl (by kernel_rfl)))) (And.intro (And.intro (by omega) (And.intro (bytes_le (b := 8) rfl (by omega)) (by omega))) ?_); conv => whnf)
        | (refine And.intro (by omega) ?_; conv => whnf)
        | (refine And.intro (by rw [List.length_map]; omega) ?_; conv => whnf)
        | (refine And.intro rfl (And.intro (List.cons_ne_nil _ _) ?_); conv => whnf)
        | (refine And.intro (Nat.le_of_ble_eq_true rfl) ?_; conv => whnf)
        | (refine callG_t ?_; conv => whnf)
        | (refine l2Turn_call (And.intro (by assumption) (by assumption)) ?_; conv => whnf)
        | (refine sTensorOk_call ?_; conv => whnf)
        | (refine And.intro (pureL_ints _ _) ?_; conv => whnf)
        | (refine cut_ints ?_; conv => whnf)
        | (refine cut_marks ?_; conv => whnf)
        | (refine cut_all rfl (scalL_ints _ _) ?_; conv => whnf)
        | (refine cut_all (by simp only [List.length_map]; omega) (scalL_ints _ _) ?_; conv => whnf)
        | (refine append_int rfl rfl (by first | rfl | (simp only [List.length_take, turned_length]; omega)) (by omega) (Nat.le_of_ble_eq_true rfl) ?_; conv => whnf)
        | (refine append_int3 rfl rfl rfl rfl (by omega) (Nat.le_of_ble_eq_true rfl) ?_; conv => whnf)
        | (refine And.intro rfl (And.intro rfl (And.intro (by first | omega | (rw [List.length_map]; omega)) ?_)); conv => whnf)
        | (refine set_nat ?_ (by omega); conv => whnf)
        | (refine set_int ?_ (by omega); conv => whnf)
        | (refine set_bool ?_ (by omega); conv => whnf)
        | (refine set_force ?_; conv => whnf)
        | (refine get_bool0 (by omega) ?_; conv => whnf)
        | (refine And.intro (And.intro rfl (And.intro (by kernel_rfl) (And.intro rfl (by kernel_rfl)))) (And.intro (And.intro (by omega) (And.intro (bytes_le (b := 1) rfl (by omega)) (by omega))) ?_); conv => whnf)
        | (refine sTurnOk_call ?_; conv => whnf)
        | (refine And.intro (And.intro (by kernel_rfl) (And.intro rfl (Nat.le_of_ble_eq_true rfl))) ?_; conv => whnf)
        | (refine And.intro (And.intro (by kernel_rfl) (by kernel_rfl)) ?_; conv => whnf)
        | (refine And.intro (by kernel_rfl) ?_; conv => whnf)
        | (refine aIf_tt (by assumption) ?_; conv => whnf)
        | (refine aIf_ff (by assumption) ?_; conv => whnf)
        | refine aIf_eqt ?_
        | refine aIf_eqf ?_
        | refine aIf_not ?_
        | (refine aIf_bself ?_; conv => whnf)
        | (refine aIf_beself ?_; conv => whnf)
        | (refine aIf_iself ?_; conv => whnf)
        | (refine aIf_decself ?_; conv => whnf)
        | (refine aIf_dec (fun _ => ?_) (fun _ => ?_) <;> conv => whnf)
        | (refine aIf_beq (fun _ => ?_) (fun _ => ?_) <;> conv => whnf)
        | (refine aIf_bne (fun _ => ?_) (fun _ => ?_) <;> conv => whnf)
        | (refine aIf_bbne (fun _ => ?_) (fun _ => ?_) <;> conv => whnf)
        | (refine aIf_bbeq (fun _ => ?_) (fun _ => ?_) <;> conv => whnf)
        | (refine aIf_in (fun _ => ?_) (fun _ => ?_) <;> conv => whnf))
      refine retTB (hM := turnM_f2 hu) ?_ ?_ ?_ ?_ ?_
      all_goals (first | exact rfl | decide | (simp; done))
  · conv => whnf
    repeat' (first
      | (refine aIf_t ?_; conv => whnf)
      | (refine aIf_f ?_; conv => whnf)
      | (refine fun (_ : _ ≤ maxLen) => ?_; conv => whnf)
      | (refine get_nat (by omega) ?_; conv => whnf)
      | (refine get_int (by omega) ?_; conv => whnf)
      | (refine get_nat0 (by omega) ?_; conv => whnf)
      | (refine get_int0 (by omega) ?_; conv => whnf)
      | (refine aGet_in rfl ?_; conv => whnf)
      | (refine And.intro (And.intro rfl (And.intro (by kernel_rfl) (And.intro rfl (by kernel_rfl)))) (And.intro (And.intro (by omega) (And.intro (bytes_le (b := 8) rfl (by omega)) (by omega))) ?_); conv => whnf)
      | (refine And.intro (by omega) ?_; conv => whnf)
      | (refine And.intro (by rw [List.length_map]; omega) ?_; conv => whnf)
      | (refine And.intro rfl (And.intro (List.cons_ne_nil _ _) ?_); conv => whnf)
      | (refine And.intro (Nat.le_of_ble_eq_true rfl) ?_; conv => whnf)
      | (refine callG_t ?_; conv => whnf)
      | (refine l2Turn_call (And.intro (by assumption) (by assumption)) ?_; conv => whnf)
      | (refine sTensorOk_call ?_; conv => whnf)
      | (refine And.intro (pureL_ints _ _) ?_; conv => whnf)
      | (refine cut_ints ?_; conv => whnf)
      | (refine cut_marks ?_; conv => whnf)
      | (refine cut_all rfl (scalL_ints _ _) ?_; conv => whnf)
      | (refine cut_all (by simp only [List.length_map]; omega) (scalL_ints _ _) ?_; conv => whnf)
      | (refine append_int rfl rfl (by first | rfl | (simp only [List.length_take, turned_length]; omega)) (by omega) (Nat.le_of_ble_eq_true rfl) ?_; conv => whnf)
      | (refine append_int3 rfl rfl rfl rfl (by omega) (Nat.le_of_ble_eq_true rfl) ?_; conv => whnf)
      | (refine And.intro rfl (And.intro rfl (And.intro (by first | omega | (rw [List.length_map]; omega)) ?_)); conv => whnf)
      | (refine set_nat ?_ (by omega); conv => whnf)
      | (refine set_int ?_ (by omega); conv => whnf)
      | (refine set_bool ?_ (by omega); conv => whnf)
      | (refine set_force ?_; conv => whnf)
      | (refine get_bool0 (by omega) ?_; conv => whnf)
      | (refine And.intro (And.intro rfl (And.intro (by kernel_rfl) (And.intro rfl (by kernel_rfl)))) (And.intro (And.intro (by omega) (And.intro (bytes_le (b := 1) rfl (by omega)) (by omega))) ?_); conv => whnf)
      | (refine sTurnOk_call ?_; conv => whnf)
      | (refine And.intro (And.intro (by kernel_rfl) (And.intro rfl (Nat.le_of_ble_eq_true rfl))) ?_; conv => whnf)
      | (refine And.intro (And.intro (by kernel_rfl) (by kernel_rfl)) ?_; conv => whnf)
      | (refine And.intro (by kernel_rfl) ?_; conv => whnf)
      | (refine aIf_tt (by assumption) ?_; conv => whnf)
      | (refine aIf_ff (by assumption) ?_; conv => whnf)
      | refine aIf_eqt ?_
      | refine aIf_eqf ?_
      | refine aIf_not ?_
      | (refine aIf_bself ?_; conv => whnf)
      | (refine aIf_beself ?_; conv => whnf)
      | (refine aIf_iself ?_; conv => whnf)
      | (refine aIf_decself ?_; conv => whnf)
      | (refine aIf_dec (fun _ => ?_) (fun _ => ?_) <;> conv => whnf)
      | (refine aIf_beq (fun _ => ?_) (fun _ => ?_) <;> conv => whnf)
      | (refine aIf_bne (fun _ => ?_) (fun _ => ?_) <;> conv => whnf)
      | (refine aIf_bbne (fun _ => ?_) (fun _ => ?_) <;> conv => whnf)
      | (refine aIf_bbeq (fun _ => ?_) (fun _ => ?_) <;> conv => whnf)
      | (refine aIf_in (fun _ => ?_) (fun _ => ?_) <;> conv => whnf))
    refine retTB (hM := turnM_f1 ht) ?_ ?_ ?_ ?_ ?_
    all_goals (first | exact rfl | decide | (simp; done))
theorem turnM_len (xs zs ax : List Int) : (turnM xs zs ax).1.length ≤ 3 ∧ (turnM xs zs ax).2.1.length ≤ 64 := by
  by_cases h : tensorOk xs zs = true ∧ turnOk ax xs.length = true
  · obtain ⟨t1, t2, t3⟩ := (tensorOk_iff _ _).1 h.1
    have hf := turn_facts t1 h.2
    have hc := cnt64 t1 (Nat.le_refl _)
    have hin := (turnOk_in h.2).1
    rw [turnM_t h.1 h.2]
    exact ⟨by show (turned xs ax).length ≤ 3; rw [turned_length]; omega, by show (rdL zs (turned xs ax) (turned (strides xs) ax) 0).length ≤ 64; rw [rdL_length, hf.cnt]; omega⟩
  · unfold turnM; rw [if_neg h]; exact ⟨Nat.zero_le _, Nat.zero_le _⟩
theorem sTurnOf_call {c d e : Nat} {xs zs ax : List Int} {env : List AV} {rows : List Row} {ctr low : Nat} {k : AV → St → Prop} (hpre : xs.length ≤ 1048576 ∧ ax.length ≤ 1048576)
    (hk : k (.tup [.agg [.ref rows.length ctr 0 (turnM xs zs ax).1.length, .ref (rows.length + 1) ctr 0 (turnM xs zs ax).2.1.length], .bool (turnM xs zs ax).2.2]) ⟨env, rows ++ [⟨ctr, 3, 1, (turnM xs zs ax).1.map (.int .i64)⟩, ⟨ctr, 3, 1, (turnM xs zs ax).2.1.map (.int .i64)⟩], ctr + 1, low⟩) :
    CallB Try.prog 37 ⟨env, rows, ctr, low⟩ [.agg [.sl c xs.length (xs.map (.int .i64)), .sl d zs.length (zs.map (.int .i64))], .sl e ax.length (ax.map (.int .i64))] k := callTB_in sTurnOf_sound (c, xs, d, zs, e, ax) hpre hk
theorem iTurnOf_call {c d e : Nat} {xs zs ax : List Int} {env : List AV} {rows : List Row} {ctr low : Nat} {k : AV → St → Prop} (hpre : xs.length ≤ 1048576 ∧ ax.length ≤ 1048576)
    (hk : k (.tup [.agg [.ref rows.length ctr 0 (turnM xs zs ax).1.length, .ref (rows.length + 1) ctr 0 (turnM xs zs ax).2.1.length], .bool (turnM xs zs ax).2.2]) ⟨env, rows ++ [⟨ctr, 3, 1, (turnM xs zs ax).1.map (.int .i64)⟩, ⟨ctr, 3, 1, (turnM xs zs ax).2.1.map (.int .i64)⟩], ctr + 1, low⟩) :
    CallB Try.prog 38 ⟨env, rows, ctr, low⟩ [.agg [.sl c xs.length (xs.map (.int .i64)), .sl d zs.length (zs.map (.int .i64))], .sl e ax.length (ax.map (.int .i64))] k := callTB_in iTurnOf_sound (c, xs, d, zs, e, ax) hpre hk
end Go.Proofs.Ytgoolnkgcdmhmaa
