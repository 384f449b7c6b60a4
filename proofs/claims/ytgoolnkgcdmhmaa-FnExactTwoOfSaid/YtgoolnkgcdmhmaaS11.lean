/- Chapter 2: readBy, spreadSteps. -/
import Derived.Test.YtgoolnkgcdmhmaaS5
import Derived.Test.YtgoolnkgcdmhmaaS10
namespace Go.Proofs.Ytgoolnkgcdmhmaa
open Go.RowKit Go.Am
attribute [local irreducible] aPlan aGet aIf aLoop aCall RetB NextB CallB CallG aCut aSet aAppend

structure RdPre (nums shape steps : List Int) (start : Int) : Prop where
  sh : shapeOk shape = true
  len : steps.length = shape.length
  st : ∀ j, j < shape.length → 0 ≤ steps.getD j 0 ∧ steps.getD j 0 ≤ 64
  s0 : 0 ≤ start ∧ start ≤ 256
  at_ : ∀ i : Nat, (i : Int) < cntTo shape shape.length → 0 ≤ rdAt shape steps start i ∧ rdAt shape steps start i < nums.length
def sReadBy : CSpec := fnT (ι := Nat × List Int × Nat × List Int × Nat × List Int × Int) 3 (fun | (c, nums, d, shape, e, steps, start) => [.sl c nums.length (nums.map (.int .i64)), .sl d shape.length (shape.map (.int .i64)), .sl e steps.length (steps.map (.int .i64)), .int .i64 start]) (fun | (_, nums, _, shape, _, steps, start) => RdPre nums shape steps start) (fun | (_, _, _, shape, _, _, _) => shape) (fun | (_, nums, _, shape, _, steps, start) => rdL nums shape steps start)
set_option maxHeartbeats 4000000 in
set_option maxRecDepth 10000 in
theorem readBy_sound : Sound Try.prog 63 sReadBy := by
  refine sound_of Try.func63 rfl (enters_of Try.func63 (by kernel_rfl) (by kernel_rfl)) ?_
  rintro ⟨c, nums, d, shape, e, steps, start⟩ hpre
  have hpre : RdPre nums shape steps start := hpre
  obtain ⟨hsh, hlen, hst, hs0, hat⟩ := hpre
  have hn3 := ((shapeOk_iff shape).1 hsh).1
  have hc := cnt64 hsh (Nat.le_refl _)
  have hcc : countOf shape = cntTo shape shape.length := if_pos hsh
  have hmax : maxLen = 9223372036854775807 := rfl
  conv => whnf
  repeat' (first
    | (refine plan_in (id := 10) [0, 1, 2, 3, 4, 5, 6, 7, 8, 9, 10, 11, 12, 13] (by kernel_rfl) (by kernel_rfl) ?_; conv => whnf)
    | (refine aIf_t ?_; conv => whnf)
    | (refine aIf_f ?_; conv => whnf)
    | (refine fun (_ : _ ≤ maxLen) => ?_; conv => whnf)
    | (refine get_nat0 (by omega) ?_; conv => whnf)
    | (refine get_int0 (by omega) ?_; conv => whnf)
    | (refine get_nat (by omega) ?_; conv => whnf)
    | (refine get_int (by omega) ?_; conv => whnf)
    | (refine aGet_in rfl ?_; conv => whnf)
    | (refine And.intro (And.intro rfl (And.intro (by kernel_rfl) (And.intro rfl (by kernel_rfl)))) (And.intro (And.intro (by omega) (And.intro (bytes_le (b := 8) rfl (by omega)) (by omega))) ?_); conv => whnf)
    | (refine And.intro (by omega) ?_; conv => whnf)
    | (refine And.intro (by rw [List.length_map]; omega) ?_; conv => whnf)
    | (refine And.intro rfl (And.intro (List.cons_ne_nil _ _) ?_); conv => whnf)
    | (refine And.intro (Nat.le_of_ble_eq_true rfl) ?_; conv => whnf)
    | (refine callG_t ?_; conv => whnf)
    | (refine copyNums_call (by omega) ?_; conv => whnf)
    | (refine And.intro (pureL_ints _ _) ?_; conv => whnf)
    | (refine And.intro (pureL_take _ _ _) ?_; conv => whnf)
    | (refine And.intro (pureL_cut _ _ _ _) ?_; conv => whnf)
    | (refine cut_ints ?_; conv => whnf)
    | (refine cut_marks ?_; conv => whnf)
    | (refine cut_all rfl (scalL_ints _ _) ?_; conv => whnf)
    | (refine cut_all (by simp only [List.length_map]; omega) (scalL_ints _ _) ?_; conv => whnf)
    | (refine iCountOf_call ?_; conv => whnf)
    | (refine append_int rfl rfl (by first | rfl | (simp only [List.length_take, turned_length]; omega)) (by omega) (Nat.le_of_ble_eq_true rfl) ?_; conv => whnf)
    | (refine append_int3 rfl rfl rfl rfl (by omega) (Nat.le_of_ble_eq_true rfl) ?_; conv => whnf)
    | (refine And.intro rfl (And.intro rfl (And.intro (by first | omega | (rw [List.length_map]; omega)) ?_)); conv => whnf)
    | (refine set_nat ?_ (by omega); conv => whnf)
    | (refine set_int ?_ (by omega); conv => whnf)
    | (refine set_bool ?_ (by omega); conv => whnf)
    | (refine set_force ?_; conv => whnf)
    | (refine get_bool0 (by omega) ?_; conv => whnf)
    | (refine And.intro (And.intro rfl (And.intro (by kernel_rfl) (And.intro rfl (by kernel_rfl)))) (And.intro (And.intro (by omega) (And.intro (bytes_le (b := 1) rfl (by omega)) (by omega))) ?_); conv => whnf)
    | (refine And.intro (And.intro (by kernel_rfl) (And.intro rfl (Nat.le_of_ble_eq_true rfl))) ?_; conv => whnf)
    | (refine And.intro (And.intro (by kernel_rfl) (by kernel_rfl)) ?_; conv => whnf)
    | (refine And.intro (by kernel_rfl) ?_; conv => whnf)
    | (refine aIf_tt (by assumption) ?_; conv => whnf)
    | (refine aIf_ff (by assumption) ?_; conv => whnf)
    | refine aIf_eqt ?_
    | refine aIf_eqf ?_
    | refine aIf_not ?_
    | (refine aIf_bself ?_; conv => whnf)
    | (refine aIf_beself ?_; conv => whnf)
    | (refine aIf_iself ?_; conv => whnf)
    | (refine aIf_decself ?_; conv => whnf)
    | (refine aIf_dec (fun _ => ?_) (fun _ => ?_) <;> conv => whnf)
    | (refine aIf_beq (fun _ => ?_) (fun _ => ?_) <;> conv => whnf)
    | (refine aIf_bne (fun _ => ?_) (fun _ => ?_) <;> conv => whnf)
    | (refine aIf_bbne (fun _ => ?_) (fun _ => ?_) <;> conv => whnf)
    | (refine aIf_bbeq (fun _ => ?_) (fun _ => ?_) <;> conv => whnf)
    | (refine aIf_in (fun _ => ?_) (fun _ => ?_) <;> conv => whnf))
  refine loop_in (ι := Nat × List Int) (fun | (k, ws) => ⟨[.sl c nums.length (nums.map (.int .i64)), .sl d shape.length (shape.map (.int .i64)), .sl e steps.length (steps.map (.int .i64)), .int .i64 start, .un, .un, .un, .un, .ptr 2 3 0, .ref 3 5 0 (countOf shape).toNat, .un, .un, .un, .un, .un, .un, .un, .un, .int .i64 (countOf shape).toNat, .int .i64 k, .un, .un, .un, .un, .un, .un, .un, .un, .un, .un, .un, .un, .un, .un, .un, .un, .un, .un, .un, .un, .un, .un, .un, .un, .un, .un, .un, .un, .un, .un, .un, .un, .un, .un, .un, .un, .un, .un, .un, .un, .un, .un], [nl 1, nl 2, bt 3 [.ref 0 1 0 0, .ref 1 2 0 0], li 5 ws], 6, 0⟩)
    (fun x => x.1 ≤ (countOf shape).toNat ∧ x.2.length = (countOf shape).toNat ∧ ∀ j, j < x.1 → x.2.getD j 0 = nums.getD (rdAt shape steps start j).toNat 0) (fun x => (countOf shape).toNat - x.1) (0, List.replicate (countOf shape).toNat 0) ⟨Nat.zero_le _, by simp, fun j hj => absurd hj (Nat.not_lt_zero _)⟩ ?_ ?_
  · repeat' (first
      | exact trivial
      | exact rfl
      | exact pureL_ints _ _
      | exact pureL_bools _
      | exact Or.inl (And.intro rfl rfl)
      | exact Or.inl (And.intro (pureL_box _ _) rfl)
      | exact le_ints rfl
      | exact le_ints (rep_ints _ _)
      | exact le_bools rfl
      | exact le_bools (rep_bools _)
      | exact Or.inl (And.intro (pureL_pair _ _ _ _ _ _) rfl)
      | refine le_ints ?_
      | refine Or.inr ?_
      | refine And.intro ?_ ?_
      | exact Nat.le_of_ble_eq_true rfl
      | exact Nat.zero_le _
      | exact int_eq (by assumption)
      | exact int_eq (by omega)
      | exact int_eq (Int.add_zero _).symm
      | exact List.length_append
      | exact int_eq (by rw [IntWalk.i64_in _ (by omega)] <;> omega))
  · rintro ⟨k, ws⟩ ⟨hk, hl, hall⟩
    have hk : k ≤ (countOf shape).toNat := hk
    have hl : ws.length = (countOf shape).toNat := hl
    have hall : ∀ j, j < k → ws.getD j 0 = nums.getD (rdAt shape steps start j).toNat 0 := hall
    conv => whnf
    repeat' (first
      | (refine plan_in (id := 10) [0, 1, 2, 3, 4, 5, 6, 7, 8, 9, 10, 11, 12, 13] (by kernel_rfl) (by kernel_rfl) ?_; conv => whnf)
      | (refine aIf_t ?_; conv => whnf)
      | (refine aIf_f ?_; conv => whnf)
      | (refine fun (_ : _ ≤ maxLen) => ?_; conv => whnf)
      | (refine get_nat0 (by omega) ?_; conv => whnf)
      | (refine get_int0 (by omega) ?_; conv => whnf)
      | (refine get_nat (by omega) ?_; conv => whnf)
      | (refine get_int (by omega) ?_; conv => whnf)
      | (refine aGet_in rfl ?_; conv => whnf)
      | (refine And.intro (And.intro rfl (And.intro (by kernel_rfl) (And.intro rfl (by kernel_rfl)))) (And.intro (And.intro (by omega) (And.intro (bytes_le (b := 8) rfl (by omega)) (by omega))) ?_); conv => whnf)
      | (refine And.intro (by omega) ?_; conv => whnf)
      | (refine And.intro (by rw [List.length_map]; omega) ?_; conv => whnf)
      | (refine And.intro rfl (And.intro (List.cons_ne_nil _ _) ?_); conv => whnf)
      | (refine And.intro (Nat.le_of_ble_eq_true rfl) ?_; conv => whnf)
      | (refine callG_t ?_; conv => whnf)
      | (refine copyNums_call (by omega) ?_; conv => whnf)
      | (refine And.intro (pureL_ints _ _) ?_; conv => whnf)
      | (refine And.intro (pureL_take _ _ _) ?_; conv => whnf)
      | (refine And.intro (pureL_cut _ _ _ _) ?_; conv => whnf)
      | (refine cut_ints ?_; conv => whnf)
      | (refine cut_marks ?_; conv => whnf)
      | (refine cut_all rfl (scalL_ints _ _) ?_; conv => whnf)
      | (refine cut_all (by simp only [List.length_map]; omega) (scalL_ints _ _) ?_; conv => whnf)
      | (refine iCountOf_call ?_; conv => whnf)
      | (refine append_int rfl rfl (by first | rfl | (simp only [List.length_take, turned_length]; omega)) (by omega) (Nat.le_of_ble_eq_true rfl) ?_; conv => whnf)
      | (refine append_int3 rfl rfl rfl rfl (by omega) (Nat.le_of_ble_eq_true rfl) ?_; conv => whnf)
      | (refine And.intro rfl (And.intro rfl (And.intro (by first | omega | (rw [List.length_map]; omega)) ?_)); conv => whnf)
      | (refine set_nat ?_ (by omega); conv => whnf)
      | (refine set_int ?_ (by omega); conv => whnf)
      | (refine set_bool ?_ (by omega); conv => whnf)
      | (refine set_force ?_; conv => whnf)
      | (refine get_bool0 (by omega) ?_; conv => whnf)
      | (refine And.intro (And.intro rfl (And.intro (by kernel_rfl) (And.intro rfl (by kernel_rfl)))) (And.intro (And.intro (by omega) (And.intro (bytes_le (b := 1) rfl (by omega)) (by omega))) ?_); conv => whnf)
      | (refine And.intro (And.intro (by kernel_rfl) (And.intro rfl (Nat.le_of_ble_eq_true rfl))) ?_; conv => whnf)
      | (refine And.intro (And.intro (by kernel_rfl) (by kernel_rfl)) ?_; conv => whnf)
      | (refine And.intro (by kernel_rfl) ?_; conv => whnf)
      | (refine aIf_tt (by assumption) ?_; conv => whnf)
      | (refine aIf_ff (by assumption) ?_; conv => whnf)
      | refine aIf_eqt ?_
      | refine aIf_eqf ?_
      | refine aIf_not ?_
      | (refine aIf_bself ?_; conv => whnf)
      | (refine aIf_beself ?_; conv => whnf)
      | (refine aIf_iself ?_; conv => whnf)
      | (refine aIf_decself ?_; conv => whnf)
      | (refine aIf_dec (fun _ => ?_) (fun _ => ?_) <;> conv => whnf)
      | (refine aIf_beq (fun _ => ?_) (fun _ => ?_) <;> conv => whnf)
      | (refine aIf_bne (fun _ => ?_) (fun _ => ?_) <;> conv => whnf)
      | (refine aIf_bbne (fun _ => ?_) (fun _ => ?_) <;> conv => whnf)
      | (refine aIf_bbeq (fun _ => ?_) (fun _ => ?_) <;> conv => whnf)
      | (refine aIf_in (fun _ => ?_) (fun _ => ?_) <;> conv => whnf))
    · have hki : (0 : Int) ≤ (k : Int) ∧ (k : Int) < cntTo shape shape.length := by omega
      have hP : ∀ j, j < shape.length → 0 ≤ (places shape k).getD j 0 ∧ (places shape k).getD j 0 ≤ 3 := fun j hj => places_in hsh hki hj
      have hdn := dot_in hP hst shape.length (Nat.le_refl _)
      refine loop_in (ι := Nat × Int × Int) (fun | (q, at_, rest) => ⟨[.sl c nums.length (nums.map (.int .i64)), .sl d shape.length (shape.map (.int .i64)), .sl e steps.length (steps.map (.int .i64)), .int .i64 start, .un, .un, .un, .un, .ptr 2 3 0, .ref 3 5 0 (countOf shape).toNat, .int .i64 k, .int .i64 at_, .int .i64 rest, .int .i64 (q - 1), .un, .un, .un, .un, .int .i64 (countOf shape).toNat, .int .i64 k, .un, .un, .un, .un, .un, .un, .un, .un, .un, .un, .un, .un, .un, .un, .un, .un, .un, .un, .un, .un, .un, .un, .un, .un, .un, .un, .un, .un, .un, .un, .un, .un, .un, .un, .un, .un, .un, .un, .un, .un, .un, .un], [nl 1, nl 2, bt 3 [.ref 0 1 0 0, .ref 1 2 0 0], li 5 ws], 6, 0⟩)
        (fun x => x.1 ≤ shape.length ∧ x.2.1 = start + (dotTo (places shape k) steps shape.length - dotTo (places shape k) steps x.1) ∧ x.2.2 = quoT shape k (shape.length - x.1)) (fun x => x.1) (shape.length, start, k) ⟨Nat.le_refl _, (show start = start + (dotTo (places shape k) steps shape.length - dotTo (places shape k) steps shape.length) by omega), by rw [Nat.sub_self]; rfl⟩ ?_ ?_
      · repeat' (first
          | exact trivial
          | exact rfl
          | exact pureL_ints _ _
          | exact pureL_bools _
          | exact Or.inl (And.intro rfl rfl)
          | exact Or.inl (And.intro (pureL_box _ _) rfl)
          | exact le_ints rfl
          | exact le_ints (rep_ints _ _)
          | exact le_bools rfl
          | exact le_bools (rep_bools _)
          | exact Or.inl (And.intro (pureL_pair _ _ _ _ _ _) rfl)
          | refine le_ints ?_
          | refine Or.inr ?_
          | refine And.intro ?_ ?_
          | exact Nat.le_of_ble_eq_true rfl
          | exact Nat.zero_le _
          | exact int_eq (by assumption)
          | exact int_eq (by omega)
          | exact int_eq (Int.add_zero _).symm
          | exact List.length_append
          | exact int_eq (by rw [IntWalk.i64_in _ (by omega)] <;> omega))
      · rintro ⟨q, at_, rest⟩ ⟨hq, hat_, hrest⟩
        have hq : q ≤ shape.length := hq
        have hat_ : at_ = start + (dotTo (places shape k) steps shape.length - dotTo (places shape k) steps q) := hat_
        have hrest : rest = quoT shape k (shape.length - q) := hrest
        have hdq := dot_in hP hst q hq
        by_cases h0 : q = 0
        · subst h0
          have e0 : at_ = rdAt shape steps start k := by
            rw [hat_]; show _ = start + _
            have : dotTo (places shape k) steps 0 = 0 := rfl
            omega
          have h9 := hat k hki.2
          rw [← e0] at h9
          conv => whnf
          repeat' (first
            | (refine plan_in (id := 10) [0, 1, 2, 3, 4, 5, 6, 7, 8, 9, 10, 11, 12, 13] (by kernel_rfl) (by kernel_rfl) ?_; conv => whnf)
            | (refine aIf_t ?_; conv => whnf)
            | (refine aIf_f ?_; conv => whnf)
            | (refine fun (_ : _ ≤ maxLen) => ?_; conv => whnf)
            | (refine get_nat0 (by omega) ?_; conv => whnf)
            | (refine get_int0 (by omega) ?_; conv => whnf)
            | (refine get_nat (by omega) ?_; conv => whnf)
            | (refine get_int (by omega) ?_; conv => whnf)
            | (refine aGet_in rfl ?_; conv => whnf)
            | (refine And.intro (And.intro rfl (And.intro (by kernel_rfl) (And.intro rfl (by kernel_rfl)))) (And.intro (And.intro (by omega) (And.intro (bytes_le (b := 8) rfl (by omega)) (by omega))) ?_); conv => whnf)
            | (refine And.intro (by omega) ?_; conv => whnf)
            | (refine And.intro (by rw [List.length_map]; omega) ?_; conv => whnf)
            | (refine And.intro rfl (And.intro (List.cons_ne_nil _ _) ?_); conv => whnf)
            | (refine And.intro (Nat.le_of_ble_eq_true rfl) ?_; conv => whnf)
            | (refine callG_t ?_; conv => whnf)
            | (refine copyNums_call (by omega) ?_; conv => whnf)
            | (refine And.intro (pureL_ints _ _) ?_; conv => whnf)
            | (refine And.intro (pureL_take _ _ _) ?_; conv => whnf)
            | (refine And.intro (pureL_cut _ _ _ _) ?_; conv => whnf)
            | (refine cut_ints ?_; conv => whnf)
            | (refine cut_marks ?_; conv => whnf)
            | (refine cut_all rfl (scalL_ints _ _) ?_; conv => whnf)
            | (refine cut_all (by simp only [List.length_map]; omega) (scalL_ints _ _) ?_; conv => whnf)
            | (refine iCountOf_call ?_; conv => whnf)
            | (refine append_int rfl rfl (by first | rfl | (simp only [List.length_take, turned_length]; omega)) (by omega) (Nat.le_of_ble_eq_true rfl) ?_; conv => whnf)
            | (refine append_int3 rfl rfl rfl rfl (by omega) (Nat.le_of_ble_eq_true rfl) ?_; conv => whnf)
            | (refine And.intro rfl (And.intro rfl (And.intro (by first | omega | (rw [List.length_map]; omega)) ?_)); conv => whnf)
            | (refine set_nat ?_ (by omega); conv => whnf)
            | (refine set_int ?_ (by omega); conv => whnf)
            | (refine set_bool ?_ (by omega); conv => whnf)
            | (refine set_force ?_; conv => whnf)
            | (refine get_bool0 (by omega) ?_; conv => whnf)
            | (refine And.intro (And.intro rfl (And.intro (by kernel_rfl) (And.intro rfl (by kernel_rfl)))) (And.intro (And.intro (by omega) (And.intro (bytes_le (b := 1) rfl (by omega)) (by omega))) ?_); conv => whnf)
            | (refine And.intro (And.intro (by kernel_rfl) (And.intro rfl (Nat.le_of_ble_eq_true rfl))) ?_; conv => whnf)
            | (refine And.intro (And.intro (by kernel_rfl) (by kernel_rfl)) ?_; conv => whnf)
            | (refine And.intro (by kernel_rfl) ?_; conv => whnf)
            | (refine aIf_tt (by assumption) ?_; conv => whnf)
            | (refine aIf_ff (by assumption) ?_; conv => whnf)
            | refine aIf_eqt ?_
            | refine aIf_eqf ?_
            | refine aIf_not ?_
            | (refine aIf_bself ?_; conv => whnf)
            | (refine aIf_beself ?_; conv => whnf)
            | (refine aIf_iself ?_; conv => whnf)
            | (refine aIf_decself ?_; conv => whnf)
            | (refine aIf_dec (fun _ => ?_) (fun _ => ?_) <;> conv => whnf)
            | (refine aIf_beq (fun _ => ?_) (fun _ => ?_) <;> conv => whnf)
            | (refine aIf_bne (fun _ => ?_) (fun _ => ?_) <;> conv => whnf)
            | (refine aIf_bbne (fun _ => ?_) (fun _ => ?_) <;> conv => whnf)
            | (refine aIf_bbeq (fun _ => ?_) (fun _ => ?_) <;> conv => whnf)
            | (refine aIf_in (fun _ => ?_) (fun _ => ?_) <;> conv => whnf))
          all_goals (first | (exfalso; omega) | skip)
          · refine next_in (k + 1, ws.set k (nums.getD at_.toNat 0)) (show (countOf shape).toNat - (k + 1) < (countOf shape).toNat - k by omega) ⟨(show k + 1 ≤ (countOf shape).toNat by omega), by simpa using hl, fun j hj => ?_⟩ ?_
            · have hj : j < k + 1 := hj
              show (ws.set k (nums.getD at_.toNat 0)).getD j 0 = _
              rw [getD_set (by omega)]
              split
              · rename_i e; rw [← e, e0]
              · exact hall j (by omega)
            · repeat' (first
                | exact trivial
                | exact rfl
                | exact pureL_ints _ _
                | exact pureL_bools _
                | exact Or.inl (And.intro rfl rfl)
                | exact Or.inl (And.intro (pureL_box _ _) rfl)
                | exact le_ints rfl
                | exact le_ints (rep_ints _ _)
                | exact le_bools rfl
                | exact le_bools (rep_bools _)
                | exact Or.inl (And.intro (pureL_pair _ _ _ _ _ _) rfl)
                | refine le_ints ?_
                | refine Or.inr ?_
                | refine And.intro ?_ ?_
                | exact Nat.le_of_ble_eq_true rfl
                | exact Nat.zero_le _
                | exact int_eq (by assumption)
                | exact int_eq (by omega)
                | exact int_eq (Int.add_zero _).symm
                | exact List.length_append
                | exact int_eq (by rw [IntWalk.i64_in _ (by omega)] <;> omega))
        · obtain ⟨q, rfl⟩ : ∃ q', q = q' + 1 := ⟨q - 1, by omega⟩
          have e1 : (((q + 1 : Nat) : Int) - 1).toNat = q := by omega
          have hz := size_in hsh (j := q) (by omega)
          have hz' : 1 ≤ shape.getD (((q + 1 : Nat) : Int) - 1).toNat 0 ∧ shape.getD (((q + 1 : Nat) : Int) - 1).toNat 0 ≤ 4 := by rw [e1]; exact hz
          have e2 := quoT_next (zs := shape) (i := k) hq
          have e3 : rest.tmod (shape.getD q 0) = (places shape k).getD q 0 := by
            rw [places_getD (by omega), hrest]; congr 2; omega
          have hm := mul_in (hP q (by omega)) (hst q (by omega))
          have hd1 := dot_in hP hst (q + 1) hq
          have hd0 := dot_in hP hst q (by omega)
          have hmo := dot_mono hP hst (q := q + 1) (shape.length - (q + 1)) (by omega)
          rw [show q + 1 + (shape.length - (q + 1)) = shape.length by omega] at hmo
          have hds : dotTo (places shape k) steps (q + 1) = dotTo (places shape k) steps q + (places shape k).getD q 0 * steps.getD q 0 := rfl
          conv => whnf
          repeat' (first
            | (refine plan_in (id := 10) [0, 1, 2, 3, 4, 5, 6, 7, 8, 9, 10, 11, 12, 13] (by kernel_rfl) (by kernel_rfl) ?_; conv => whnf)
            | (refine aIf_t ?_; conv => whnf)
            | (refine aIf_f ?_; conv => whnf)
            | (refine fun (_ : _ ≤ maxLen) => ?_; conv => whnf)
            | (refine get_nat0 (by omega) ?_; conv => whnf)
            | (refine get_int0 (by omega) ?_; conv => whnf)
            | (refine get_nat (by omega) ?_; conv => whnf)
            | (refine get_int (by omega) ?_; conv => whnf)
            | (refine aGet_in rfl ?_; conv => whnf)
            | (refine And.intro (And.intro rfl (And.intro (by kernel_rfl) (And.intro rfl (by kernel_rfl)))) (And.intro (And.intro (by omega) (And.intro (bytes_le (b := 8) rfl (by omega)) (by omega))) ?_); conv => whnf)
            | (refine And.intro (by omega) ?_; conv => whnf)
            | (refine And.intro (by rw [List.length_map]; omega) ?_; conv => whnf)
            | (refine And.intro rfl (And.intro (List.cons_ne_nil _ _) ?_); conv => whnf)
            | (refine And.intro (Nat.le_of_ble_eq_true rfl) ?_; conv => whnf)
            | (refine callG_t ?_; conv => whnf)
            | (refine copyNums_call (by omega) ?_; conv => whnf)
            | (refine And.intro (pureL_ints _ _) ?_; conv => whnf)
            | (refine And.intro (pureL_take _ _ _) ?_; conv => whnf)
            | (refine And.intro (pureL_cut _ _ _ _) ?_; conv => whnf)
            | (refine cut_ints ?_; conv => whnf)
            | (refine cut_marks ?_; conv => whnf)
            | (refine cut_all rfl (scalL_ints _ _) ?_; conv => whnf)
            | (refine cut_all (by simp only [List.length_map]; omega) (scalL_ints _ _) ?_; conv => whnf)
            | (refine iCountOf_call ?_; conv => whnf)
            | (refine append_int rfl rfl (by first | rfl | (simp only [List.length_take, turned_length]; omega)) (by omega) (Nat.le_of_ble_eq_true rfl) ?_; conv => whnf)
            | (refine append_int3 rfl rfl rfl rfl (by omega) (Nat.le_of_ble_eq_true rfl) ?_; conv => whnf)
            | (refine And.intro rfl (And.intro rfl (And.intro (by first | omega | (rw [List.length_map]; omega)) ?_)); conv => whnf)
            | (refine set_nat ?_ (by omega); conv => whnf)
            | (refine set_int ?_ (by omega); conv => whnf)
            | (refine set_bool ?_ (by omega); conv => whnf)
            | (refine set_force ?_; conv => whnf)
            | (refine get_bool0 (by omega) ?_; conv => whnf)
            | (refine And.intro (And.intro rfl (And.intro (by kernel_rfl) (And.intro rfl (by kernel_rfl)))) (And.intro (And.intro (by omega) (And.intro (bytes_le (b := 1) rfl (by omega)) (by omega))) ?_); conv => whnf)
            | (refine And.intro (And.intro (by kernel_rfl) (And.intro rfl (Nat.le_of_ble_eq_true rfl))) ?_; conv => whnf)
            | (refine And.intro (And.intro (by kernel_rfl) (by kernel_rfl)) ?_; conv => whnf)
            | (refine And.intro (by kernel_rfl) ?_; conv => whnf)
            | (refine aIf_tt (by assumption) ?_; conv => whnf)
            | (refine aIf_ff (by assumption) ?_; conv => whnf)
            | refine aIf_eqt ?_
            | refine aIf_eqf ?_
            | refine aIf_not ?_
            | (refine aIf_bself ?_; conv => whnf)
            | (refine aIf_beself ?_; conv => whnf)
            | (refine aIf_iself ?_; conv => whnf)
            | (refine aIf_decself ?_; conv => whnf)
            | (refine aIf_dec (fun _ => ?_) (fun _ => ?_) <;> conv => whnf)
            | (refine aIf_beq (fun _ => ?_) (fun _ => ?_) <;> conv => whnf)
            | (refine aIf_bne (fun _ => ?_) (fun _ => ?_) <;> conv => whnf)
            | (refine aIf_bbne (fun _ => ?_) (fun _ => ?_) <;> conv => whnf)
            | (refine aIf_bbeq (fun _ => ?_) (fun _ => ?_) <;> conv => whnf)
            | (refine aIf_in (fun _ => ?_) (fun _ => ?_) <;> conv => whnf))
          all_goals (first | (exfalso; omega) | skip)
          rw [e1]
          refine next_in (q, IntKind.i64.wrap (at_ + IntKind.i64.wrap (rest.tmod (shape.getD q 0) * steps.getD q 0)), IntKind.i64.wrap (rest.tdiv (shape.getD q 0))) (Nat.lt_succ_self _) ⟨(show q ≤ shape.length by omega), ?_, ?_⟩ ?_
          · show IntKind.i64.wrap (at_ + IntKind.i64.wrap (rest.tmod (shape.getD q 0) * steps.getD q 0)) = start + (dotTo (places shape k) steps shape.length - dotTo (places shape k) steps q)
            rw [e3, IntWalk.i64_in ((places shape k).getD q 0 * steps.getD q 0) (by omega), IntWalk.i64_in _ (by omega)]
            omega
          · show IntKind.i64.wrap (rest.tdiv (shape.getD q 0)) = quoT shape k (shape.length - q)
            rw [e2, ← hrest]
          · repeat' (first
              | exact trivial
              | exact rfl
              | exact pureL_ints _ _
              | exact pureL_bools _
              | exact Or.inl (And.intro rfl rfl)
              | exact Or.inl (And.intro (pureL_box _ _) rfl)
              | exact le_ints rfl
              | exact le_ints (rep_ints _ _)
              | exact le_bools rfl
              | exact le_bools (rep_bools _)
              | exact Or.inl (And.intro (pureL_pair _ _ _ _ _ _) rfl)
              | refine le_ints ?_
              | refine Or.inr ?_
              | refine And.intro ?_ ?_
              | exact Nat.le_of_ble_eq_true rfl
              | exact Nat.zero_le _
              | exact int_eq (by assumption)
              | exact int_eq (by omega)
              | exact int_eq (Int.add_zero _).symm
              | exact List.length_append
              | exact int_eq (by rw [IntWalk.i64_in _ (by omega)] <;> omega))
    · have e : ws = rdL nums shape steps start := getD_ext (by rw [rdL_length, hl, hcc]) fun j hj => by
        rw [rdL_length] at hj
        rw [hall j (by omega), rdL_getD hj]
      subst e
      refine retT ?_ ?_ ?_ ?_ ?_
      all_goals (first | exact rfl | decide | (rw [rdL_length, hcc]; done) | (simp; done))
theorem readBy_call {c d e n1 n2 n3 : Nat} {nums shape steps : List Int} {start : Int} {env : List AV} {rows : List Row} {ctr low : Nat} {k : AV → St → Prop} (hpre : RdPre nums shape steps start) (e1 : n1 = nums.length) (e2 : n2 = shape.length) (e3 : n3 = steps.length)
    (hk : k (.agg [.ref rows.length ctr 0 shape.length, .ref (rows.length + 1) ctr 0 (rdL nums shape steps start).length]) ⟨env, rows ++ [⟨ctr, 3, 1, shape.map (.int .i64)⟩, ⟨ctr, 3, 1, (rdL nums shape steps start).map (.int .i64)⟩], ctr + 1, low⟩) :
    CallB Try.prog 63 ⟨env, rows, ctr, low⟩ [.sl c n1 (nums.map (.int .i64)), .sl d n2 (shape.map (.int .i64)), .sl e n3 (steps.map (.int .i64)), .int .i64 start] k := by
  subst e1; subst e2; subst e3
  exact callT_in readBy_sound (c, nums, d, shape, e, steps, start) hpre hk

end Go.Proofs.Ytgoolnkgcdmhmaa
