import Derived.Test.YtjmdhfjemaoebaaGreatM0x37
import Derived.Test.YtjmdhfjemaoebaaGreatM0x38
namespace Go.Proofs.YtjmdhfjemaoebaaGreat
set_option maxRecDepth 20000
open Go.RowKit Go.Am
set_option linter.unusedSimpArgs false
attribute [local irreducible] aPlan aGet aIf aLoop aCall RetB NextB CallB CallG aCut aSet aAppend
set_option maxHeartbeats 8000000 in
theorem l6Ok_2 : Sound Tryz.prog 78 (sOk fun ch => ch = 2) := by
  refine sound_of Tryz.func78 rfl (enters_of Tryz.func78 (by kernel_rfl) (by kernel_rfl)) ?_
  rintro ⟨c, xss, ns, ch, q⟩ ⟨⟨hE, hM, hq⟩, hc⟩
  have hE : eP ns := hE
  have hM : (shM xss ns).2 = true := hM
  have hq : q < ns.length := hq
  have hc : ch = 2 := hc
  subst hc
  have hX := exI_of hM
  have h12 := hX.n12
  have hop := hX.op hq
  have hmax : maxLen = 9223372036854775807 := rfl
  have hpc := pcN_cases (ns.getD q default).op
  by_cases hz : pcN (ns.getD q default).op = 0
  · have hv : okC xss ns 2 q = decide ((ns.getD q default).op = 8 ∧ (ns.getD (ns.getD q default).a.toNat default).op = 8) := by rw [okC_s (by decide), cX_0 hz]; exact (decide_eq_false (by omega)).symm
    conv => whnf
    repeat' (first
      | ((first | refine plan_in (id := 6) [0, 1, 2, 3, 4, 6, 7, 5, 8, 9, 10, 11, 12, 13, 14, 15, 16, 17, 19, 20, 18, 21, 22, 23, 24] (by kernel_rfl) (by kernel_rfl) ?_ | refine plan_in (id := 16) [0, 1, 2, 3, 4, 5, 6, 7, 8, 9, 10, 11, 12, 13, 14, 15, 16, 17, 18, 19, 20, 21, 22, 23, 24, 25] (by kernel_rfl) (by kernel_rfl) ?_ | refine aIf_t ?_ | refine aIf_f ?_ | refine aGet_in rfl ?_ | refine And.intro (by omega) ?_ | refine load_same ?_ | refine And.intro rfl (And.intro (List.cons_ne_nil _ _) ?_) | refine And.intro (Nat.le_of_ble_eq_true rfl) ?_ | refine callG_t ?_ | refine append_same ?_ | refine part_nd_n (by omega) ?_); conv => whnf) | (refine l6Is_call (by first | omega | assumption | (refine ⟨?_, ?_⟩ <;> first | assumption | omega) | (refine ⟨?_, ?_, ?_⟩ <;> first | assumption | omega)) ?_; conv => whnf) | ((first | refine takeN_in ?_ | refine set_force ?_ | refine And.intro (by kernel_rfl) ?_); conv => whnf) | refine aIf_eqt ?_
      | (refine aIf_dec (fun _ => ?_) (fun _ => ?_) <;> conv => whnf))
    all_goals (first | (exfalso; omega) | contradiction | skip)
    all_goals refine retS rfl (congrArg AV.bool ?_)
    all_goals rw [hv]
    all_goals (first | exact (decide_eq_true (by omega)).symm | exact (decide_eq_false (by omega)).symm | exact Bool.eq_iff_iff.2 (by simp only [decide_eq_true_eq, beq_iff_eq, bne_iff_ne]; omega))
  · obtain ⟨ha, hb⟩ := hX.ab hq (by omega)
    have hv : okC xss ns 2 q = decide ((ns.getD q default).op = 8 ∧ (ns.getD (ns.getD q default).a.toNat default).op = 8) := by rw [okC_s (by decide), cX_2 hz]; exact ite_is
    conv => whnf
    repeat' (first
      | ((first | refine plan_in (id := 6) [0, 1, 2, 3, 4, 6, 7, 5, 8, 9, 10, 11, 12, 13, 14, 15, 16, 17, 19, 20, 18, 21, 22, 23, 24] (by kernel_rfl) (by kernel_rfl) ?_ | refine plan_in (id := 16) [0, 1, 2, 3, 4, 5, 6, 7, 8, 9, 10, 11, 12, 13, 14, 15, 16, 17, 18, 19, 20, 21, 22, 23, 24, 25] (by kernel_rfl) (by kernel_rfl) ?_ | refine aIf_t ?_ | refine aIf_f ?_ | refine aGet_in rfl ?_ | refine And.intro (by omega) ?_ | refine load_same ?_ | refine And.intro rfl (And.intro (List.cons_ne_nil _ _) ?_) | refine And.intro (Nat.le_of_ble_eq_true rfl) ?_ | refine callG_t ?_ | refine append_same ?_ | refine part_nd_n (by omega) ?_ | refine And.intro (pureL_ii _ _) ?_ | refine And.intro (pureL_nd _ _) ?_); conv => whnf) | (refine l6Is_call (by first | omega | assumption | (refine ⟨?_, ?_⟩ <;> first | assumption | omega) | (refine ⟨?_, ?_, ?_⟩ <;> first | assumption | omega)) ?_; conv => whnf) | ((first | refine takeN_in ?_ | refine set_force ?_ | refine And.intro (by kernel_rfl) ?_); conv => whnf) | refine aIf_eqt ?_
      | (refine aIf_dec (fun _ => ?_) (fun _ => ?_) <;> conv => whnf))
    all_goals (first | (exfalso; omega) | contradiction | skip)
    all_goals refine retS rfl (congrArg AV.bool ?_)
    all_goals rw [hv]
    all_goals (first | exact (decide_eq_true (by omega)).symm | exact (decide_eq_false (by omega)).symm | exact Bool.eq_iff_iff.2 (by simp only [decide_eq_true_eq, beq_iff_eq, bne_iff_ne]; omega))
set_option maxHeartbeats 8000000 in
theorem l6Ok_3 : Sound Tryz.prog 78 (sOk fun ch => ch = 3) := by
  refine sound_of Tryz.func78 rfl (enters_of Tryz.func78 (by kernel_rfl) (by kernel_rfl)) ?_
  rintro ⟨c, xss, ns, ch, q⟩ ⟨⟨hE, hM, hq⟩, hc⟩
  have hE : eP ns := hE
  have hM : (shM xss ns).2 = true := hM
  have hq : q < ns.length := hq
  have hc : ch = 3 := hc
  subst hc
  have hX := exI_of hM
  have h12 := hX.n12
  have hop := hX.op hq
  have hmax : maxLen = 9223372036854775807 := rfl
  have hpc := pcN_cases (ns.getD q default).op
  by_cases hz : pcN (ns.getD q default).op = 0
  · have hv : okC xss ns 3 q = decide ((ns.getD q default).op = 9 ∧ (ns.getD (ns.getD q default).a.toNat default).op = 9) := by rw [okC_s (by decide), cX_0 hz]; exact (decide_eq_false (by omega)).symm
    conv => whnf
    repeat' (first
      | ((first | refine plan_in (id := 6) [0, 1, 2, 3, 4, 6, 7, 5, 8, 9, 10, 11, 12, 13, 14, 15, 16, 17, 19, 20, 18, 21, 22, 23, 24] (by kernel_rfl) (by kernel_rfl) ?_ | refine plan_in (id := 16) [0, 1, 2, 3, 4, 5, 6, 7, 8, 9, 10, 11, 12, 13, 14, 15, 16, 17, 18, 19, 20, 21, 22, 23, 24, 25] (by kernel_rfl) (by kernel_rfl) ?_ | refine aIf_t ?_ | refine aIf_f ?_ | refine aGet_in rfl ?_ | refine And.intro (by omega) ?_ | refine load_same ?_ | refine And.intro rfl (And.intro (List.cons_ne_nil _ _) ?_) | refine And.intro (Nat.le_of_ble_eq_true rfl) ?_ | refine callG_t ?_ | refine append_same ?_ | refine part_nd_n (by omega) ?_); conv => whnf) | (refine l6Is_call (by first | omega | assumption | (refine ⟨?_, ?_⟩ <;> first | assumption | omega) | (refine ⟨?_, ?_, ?_⟩ <;> first | assumption | omega)) ?_; conv => whnf) | ((first | refine takeN_in ?_ | refine set_force ?_ | refine And.intro (by kernel_rfl) ?_); conv => whnf) | refine aIf_eqt ?_
      | (refine aIf_dec (fun _ => ?_) (fun _ => ?_) <;> conv => whnf))
    all_goals (first | (exfalso; omega) | contradiction | skip)
    all_goals refine retS rfl (congrArg AV.bool ?_)
    all_goals rw [hv]
    all_goals (first | exact (decide_eq_true (by omega)).symm | exact (decide_eq_false (by omega)).symm | exact Bool.eq_iff_iff.2 (by simp only [decide_eq_true_eq, beq_iff_eq, bne_iff_ne]; omega))
  · obtain ⟨ha, hb⟩ := hX.ab hq (by omega)
    have hv : okC xss ns 3 q = decide ((ns.getD q default).op = 9 ∧ (ns.getD (ns.getD q default).a.toNat default).op = 9) := by rw [okC_s (by decide), cX_3 hz]; exact ite_is
    conv => whnf
    repeat' (first
      | ((first | refine plan_in (id := 6) [0, 1, 2, 3, 4, 6, 7, 5, 8, 9, 10, 11, 12, 13, 14, 15, 16, 17, 19, 20, 18, 21, 22, 23, 24] (by kernel_rfl) (by kernel_rfl) ?_ | refine plan_in (id := 16) [0, 1, 2, 3, 4, 5, 6, 7, 8, 9, 10, 11, 12, 13, 14, 15, 16, 17, 18, 19, 20, 21, 22, 23, 24, 25] (by kernel_rfl) (by kernel_rfl) ?_ | refine aIf_t ?_ | refine aIf_f ?_ | refine aGet_in rfl ?_ | refine And.intro (by omega) ?_ | refine load_same ?_ | refine And.intro rfl (And.intro (List.cons_ne_nil _ _) ?_) | refine And.intro (Nat.le_of_ble_eq_true rfl) ?_ | refine callG_t ?_ | refine append_same ?_ | refine part_nd_n (by omega) ?_ | refine And.intro (pureL_ii _ _) ?_ | refine And.intro (pureL_nd _ _) ?_); conv => whnf) | (refine l6Is_call (by first | omega | assumption | (refine ⟨?_, ?_⟩ <;> first | assumption | omega) | (refine ⟨?_, ?_, ?_⟩ <;> first | assumption | omega)) ?_; conv => whnf) | ((first | refine takeN_in ?_ | refine set_force ?_ | refine And.intro (by kernel_rfl) ?_); conv => whnf) | refine aIf_eqt ?_
      | (refine aIf_dec (fun _ => ?_) (fun _ => ?_) <;> conv => whnf))
    all_goals (first | (exfalso; omega) | contradiction | skip)
    all_goals refine retS rfl (congrArg AV.bool ?_)
    all_goals rw [hv]
    all_goals (first | exact (decide_eq_true (by omega)).symm | exact (decide_eq_false (by omega)).symm | exact Bool.eq_iff_iff.2 (by simp only [decide_eq_true_eq, beq_iff_eq, bne_iff_ne]; omega))
set_option maxHeartbeats 8000000 in
theorem l6Ok_4 : Sound Tryz.prog 78 (sOk fun ch => ch = 4) := by
  refine sound_of Tryz.func78 rfl (enters_of Tryz.func78 (by kernel_rfl) (by kernel_rfl)) ?_
  rintro ⟨c, xss, ns, ch, q⟩ ⟨⟨hE, hM, hq⟩, hc⟩
  have hE : eP ns := hE
  have hM : (shM xss ns).2 = true := hM
  have hq : q < ns.length := hq
  have hc : ch = 4 := hc
  subst hc
  have hX := exI_of hM
  have h12 := hX.n12
  have hop := hX.op hq
  have hmax : maxLen = 9223372036854775807 := rfl
  have hpc := pcN_cases (ns.getD q default).op
  by_cases hz : pcN (ns.getD q default).op = 0
  · have hv : okC xss ns 4 q = decide ((ns.getD q default).op = 6 ∧ (ns.getD (ns.getD q default).a.toNat default).op = 6) := by rw [okC_s (by decide), cX_0 hz]; exact (decide_eq_false (by omega)).symm
    conv => whnf
    repeat' (first
      | ((first | refine plan_in (id := 6) [0, 1, 2, 3, 4, 6, 7, 5, 8, 9, 10, 11, 12, 13, 14, 15, 16, 17, 19, 20, 18, 21, 22, 23, 24] (by kernel_rfl) (by kernel_rfl) ?_ | refine plan_in (id := 16) [0, 1, 2, 3, 4, 5, 6, 7, 8, 9, 10, 11, 12, 13, 14, 15, 16, 17, 18, 19, 20, 21, 22, 23, 24, 25] (by kernel_rfl) (by kernel_rfl) ?_ | refine aIf_t ?_ | refine aIf_f ?_ | refine aGet_in rfl ?_ | refine And.intro (by omega) ?_ | refine load_same ?_ | refine And.intro rfl (And.intro (List.cons_ne_nil _ _) ?_) | refine And.intro (Nat.le_of_ble_eq_true rfl) ?_ | refine callG_t ?_ | refine append_same ?_ | refine part_nd_n (by omega) ?_); conv => whnf) | (refine l6Is_call (by first | omega | assumption | (refine ⟨?_, ?_⟩ <;> first | assumption | omega) | (refine ⟨?_, ?_, ?_⟩ <;> first | assumption | omega)) ?_; conv => whnf) | ((first | refine takeN_in ?_ | refine set_force ?_ | refine And.intro (by kernel_rfl) ?_); conv => whnf) | refine aIf_eqt ?_
      | (refine aIf_dec (fun _ => ?_) (fun _ => ?_) <;> conv => whnf))
    all_goals (first | (exfalso; omega) | contradiction | skip)
    all_goals refine retS rfl (congrArg AV.bool ?_)
    all_goals rw [hv]
    all_goals (first | exact (decide_eq_true (by omega)).symm | exact (decide_eq_false (by omega)).symm | exact Bool.eq_iff_iff.2 (by simp only [decide_eq_true_eq, beq_iff_eq, bne_iff_ne]; omega))
  · obtain ⟨ha, hb⟩ := hX.ab hq (by omega)
    have hv : okC xss ns 4 q = decide ((ns.getD q default).op = 6 ∧ (ns.getD (ns.getD q default).a.toNat default).op = 6) := by rw [okC_s (by decide), cX_4 hz]; exact ite_is
    conv => whnf
    repeat' (first
      | ((first | refine plan_in (id := 6) [0, 1, 2, 3, 4, 6, 7, 5, 8, 9, 10, 11, 12, 13, 14, 15, 16, 17, 19, 20, 18, 21, 22, 23, 24] (by kernel_rfl) (by kernel_rfl) ?_ | refine plan_in (id := 16) [0, 1, 2, 3, 4, 5, 6, 7, 8, 9, 10, 11, 12, 13, 14, 15, 16, 17, 18, 19, 20, 21, 22, 23, 24, 25] (by kernel_rfl) (by kernel_rfl) ?_ | refine aIf_t ?_ | refine aIf_f ?_ | refine aGet_in rfl ?_ | refine And.intro (by omega) ?_ | refine load_same ?_ | refine And.intro rfl (And.intro (List.cons_ne_nil _ _) ?_) | refine And.intro (Nat.le_of_ble_eq_true rfl) ?_ | refine callG_t ?_ | refine append_same ?_ | refine part_nd_n (by omega) ?_ | refine And.intro (pureL_ii _ _) ?_ | refine And.intro (pureL_nd _ _) ?_); conv => whnf) | (refine l6Is_call (by first | omega | assumption | (refine ⟨?_, ?_⟩ <;> first | assumption | omega) | (refine ⟨?_, ?_, ?_⟩ <;> first | assumption | omega)) ?_; conv => whnf) | ((first | refine takeN_in ?_ | refine set_force ?_ | refine And.intro (by kernel_rfl) ?_); conv => whnf) | refine aIf_eqt ?_
      | (refine aIf_dec (fun _ => ?_) (fun _ => ?_) <;> conv => whnf))
    all_goals (first | (exfalso; omega) | contradiction | skip)
    all_goals refine retS rfl (congrArg AV.bool ?_)
    all_goals rw [hv]
    all_goals (first | exact (decide_eq_true (by omega)).symm | exact (decide_eq_false (by omega)).symm | exact Bool.eq_iff_iff.2 (by simp only [decide_eq_true_eq, beq_iff_eq, bne_iff_ne]; omega))
set_option maxHeartbeats 8000000 in
theorem l6Ok_8 : Sound Tryz.prog 78 (sOk fun ch => ch = 8) := by
  refine sound_of Tryz.func78 rfl (enters_of Tryz.func78 (by kernel_rfl) (by kernel_rfl)) ?_
  rintro ⟨c, xss, ns, ch, q⟩ ⟨⟨hE, hM, hq⟩, hc⟩
  have hE : eP ns := hE
  have hM : (shM xss ns).2 = true := hM
  have hq : q < ns.length := hq
  have hc : ch = 8 := hc
  subst hc
  have hX := exI_of hM
  have h12 := hX.n12
  have hop := hX.op hq
  have hmax : maxLen = 9223372036854775807 := rfl
  have hpc := pcN_cases (ns.getD q default).op
  by_cases hz : pcN (ns.getD q default).op = 0
  · have hv : okC xss ns 8 q = decide (((ns.getD q default).op = 2 ∨ (ns.getD q default).op = 4 ∨ (ns.getD q default).op = 5) ∧ (ns.getD q default).b < (ns.getD q default).a) := by rw [okC_s (by decide), cX_0 hz]; exact (decide_eq_false (by omega)).symm
    conv => whnf
    repeat' (first
      | ((first | refine plan_in (id := 6) [0, 1, 2, 3, 4, 6, 7, 5, 8, 9, 10, 11, 12, 13, 14, 15, 16, 17, 19, 20, 18, 21, 22, 23, 24] (by kernel_rfl) (by kernel_rfl) ?_ | refine plan_in (id := 16) [0, 1, 2, 3, 4, 5, 6, 7, 8, 9, 10, 11, 12, 13, 14, 15, 16, 17, 18, 19, 20, 21, 22, 23, 24, 25] (by kernel_rfl) (by kernel_rfl) ?_ | refine aIf_t ?_ | refine aIf_f ?_ | refine aGet_in rfl ?_ | refine And.intro (by omega) ?_ | refine And.intro rfl (And.intro (List.cons_ne_nil _ _) ?_) | refine And.intro (Nat.le_of_ble_eq_true rfl) ?_ | refine append_same ?_ | refine part_nd_n (by omega) ?_ | refine set_force ?_ | refine And.intro (by kernel_rfl) ?_); conv => whnf) | refine aIf_eqt ?_
      | refine aIf_eqf ?_ | (refine aIf_dec (fun _ => ?_) (fun _ => ?_) <;> conv => whnf))
    all_goals (first | (exfalso; omega) | contradiction | skip)
    all_goals refine retS rfl (congrArg AV.bool ?_)
    all_goals rw [hv]
    all_goals (first | exact (decide_eq_true (by omega)).symm | exact (decide_eq_false (by omega)).symm | exact Bool.eq_iff_iff.2 (by simp only [decide_eq_true_eq, beq_iff_eq, bne_iff_ne]; omega))
  · obtain ⟨ha, hb⟩ := hX.ab hq (by omega)
    have hv : okC xss ns 8 q = decide (((ns.getD q default).op = 2 ∨ (ns.getD q default).op = 4 ∨ (ns.getD q default).op = 5) ∧ (ns.getD q default).b < (ns.getD q default).a) := by rw [okC_s (by decide), cX_8 hz]; exact ite_is
    conv => whnf
    repeat' (first
      | ((first | refine plan_in (id := 6) [0, 1, 2, 3, 4, 6, 7, 5, 8, 9, 10, 11, 12, 13, 14, 15, 16, 17, 19, 20, 18, 21, 22, 23, 24] (by kernel_rfl) (by kernel_rfl) ?_ | refine plan_in (id := 16) [0, 1, 2, 3, 4, 5, 6, 7, 8, 9, 10, 11, 12, 13, 14, 15, 16, 17, 18, 19, 20, 21, 22, 23, 24, 25] (by kernel_rfl) (by kernel_rfl) ?_ | refine aIf_t ?_ | refine aIf_f ?_ | refine aGet_in rfl ?_ | refine And.intro (by omega) ?_ | refine And.intro rfl (And.intro (List.cons_ne_nil _ _) ?_) | refine And.intro (Nat.le_of_ble_eq_true rfl) ?_ | refine append_same ?_ | refine part_nd_n (by omega) ?_ | refine set_force ?_ | refine And.intro (by kernel_rfl) ?_); conv => whnf) | refine aIf_eqt ?_
      | refine aIf_eqf ?_ | (refine aIf_dec (fun _ => ?_) (fun _ => ?_) <;> conv => whnf))
    all_goals (first | (exfalso; omega) | contradiction | skip)
    all_goals refine retS rfl (congrArg AV.bool ?_)
    all_goals rw [hv]
    all_goals (first | exact (decide_eq_true (by omega)).symm | exact (decide_eq_false (by omega)).symm | exact Bool.eq_iff_iff.2 (by simp only [decide_eq_true_eq, beq_iff_eq, bne_iff_ne]; omega))
end Go.Proofs.YtjmdhfjemaoebaaGreat
namespace Go.Proofs.YtjmdhfjemaoebaaGreat
set_option maxRecDepth 20000
open Go.RowKit Go.Am
set_option linter.unusedSimpArgs false
attribute [local irreducible] aPlan aGet aIf aLoop aCall RetB NextB CallB CallG aCut aSet aAppend
set_option maxHeartbeats 8000000 in
theorem l6Ok_5 : Sound Tryz.prog 78 (sOk fun ch => ch = 5) := by
  refine sound_of Tryz.func78 rfl (enters_of Tryz.func78 (by kernel_rfl) (by kernel_rfl)) ?_
  rintro ⟨c, xss, ns, ch, q⟩ ⟨⟨hE, hM, hq⟩, hc⟩
  have hE : eP ns := hE
  have hM : (shM xss ns).2 = true := hM
  have hq : q < ns.length := hq
  have hc : ch = 5 := hc
  subst hc
  have hX := exI_of hM
  have h12 := hX.n12
  have hop := hX.op hq
  have hmax : maxLen = 9223372036854775807 := rfl
  have hpc := pcN_cases (ns.getD q default).op
  by_cases hz : pcN (ns.getD q default).op = 0
  · have hv : okC xss ns 5 q = decide (((ns.getD q default).op = 2 ∧ (ns.getD (ns.getD q default).b.toNat default).op = 6) ∨ ((ns.getD q default).op = 3 ∧ (ns.getD (ns.getD q default).b.toNat default).op = 6) ∨ ((ns.getD q default).op = 4 ∧ (ns.getD (ns.getD q default).a.toNat default).op = 6 ∧ (ns.getD (ns.getD q default).b.toNat default).op = 6)) := by rw [okC_s (by decide), cX_0 hz]; exact (decide_eq_false (by omega)).symm
    conv => whnf
    repeat' (first
      | ((first | refine plan_in (id := 6) [0, 1, 2, 3, 4, 6, 7, 5, 8, 9, 10, 11, 12, 13, 14, 15, 16, 17, 19, 20, 18, 21, 22, 23, 24] (by kernel_rfl) (by kernel_rfl) ?_ | refine plan_in (id := 16) [0, 1, 2, 3, 4, 5, 6, 7, 8, 9, 10, 11, 12, 13, 14, 15, 16, 17, 18, 19, 20, 21, 22, 23, 24, 25] (by kernel_rfl) (by kernel_rfl) ?_ | refine aIf_t ?_ | refine aIf_f ?_ | refine aGet_in rfl ?_ | refine And.intro (by omega) ?_ | refine load_same ?_ | refine And.intro rfl (And.intro (List.cons_ne_nil _ _) ?_) | refine And.intro (Nat.le_of_ble_eq_true rfl) ?_ | refine callG_t ?_ | refine append_same ?_ | refine part_nd_n (by omega) ?_); conv => whnf) | (refine l6Is_call (by first | omega | assumption | (refine ⟨?_, ?_⟩ <;> first | assumption | omega) | (refine ⟨?_, ?_, ?_⟩ <;> first | assumption | omega)) ?_; conv => whnf) | ((first | refine takeN_in ?_ | refine set_force ?_ | refine And.intro (by kernel_rfl) ?_); conv => whnf) | refine aIf_eqt ?_
      | refine aIf_eqf ?_ | (refine aIf_dec (fun _ => ?_) (fun _ => ?_) <;> conv => whnf))
    all_goals (first | (exfalso; omega) | contradiction | skip)
    all_goals refine retS rfl (congrArg AV.bool ?_)
    all_goals rw [hv]
    all_goals (first | exact (decide_eq_true (by omega)).symm | exact (decide_eq_false (by omega)).symm | exact Bool.eq_iff_iff.2 (by simp only [decide_eq_true_eq, beq_iff_eq, bne_iff_ne]; omega))
  · obtain ⟨ha, hb⟩ := hX.ab hq (by omega)
    have hv : okC xss ns 5 q = decide (((ns.getD q default).op = 2 ∧ (ns.getD (ns.getD q default).b.toNat default).op = 6) ∨ ((ns.getD q default).op = 3 ∧ (ns.getD (ns.getD q default).b.toNat default).op = 6) ∨ ((ns.getD q default).op = 4 ∧ (ns.getD (ns.getD q default).a.toNat default).op = 6 ∧ (ns.getD (ns.getD q default).b.toNat default).op = 6)) := by rw [okC_s (by decide), cX_5 hz]; exact c5_is
    conv => whnf
    repeat' (first
      | ((first | refine plan_in (id := 6) [0, 1, 2, 3, 4, 6, 7, 5, 8, 9, 10, 11, 12, 13, 14, 15, 16, 17, 19, 20, 18, 21, 22, 23, 24] (by kernel_rfl) (by kernel_rfl) ?_ | refine plan_in (id := 16) [0, 1, 2, 3, 4, 5, 6, 7, 8, 9, 10, 11, 12, 13, 14, 15, 16, 17, 18, 19, 20, 21, 22, 23, 24, 25] (by kernel_rfl) (by kernel_rfl) ?_ | refine aIf_t ?_ | refine aIf_f ?_ | refine aGet_in rfl ?_ | refine And.intro (by omega) ?_ | refine load_same ?_ | refine And.intro rfl (And.intro (List.cons_ne_nil _ _) ?_) | refine And.intro (Nat.le_of_ble_eq_true rfl) ?_ | refine callG_t ?_ | refine append_same ?_ | refine part_nd_n (by omega) ?_ | refine And.intro (pureL_ii _ _) ?_ | refine And.intro (pureL_nd _ _) ?_); conv => whnf) | (refine l6Is_call (by first | omega | assumption | (refine ⟨?_, ?_⟩ <;> first | assumption | omega) | (refine ⟨?_, ?_, ?_⟩ <;> first | assumption | omega)) ?_; conv => whnf) | ((first | refine takeN_in ?_ | refine set_force ?_ | refine And.intro (by kernel_rfl) ?_); conv => whnf) | refine aIf_eqt ?_
      | refine aIf_eqf ?_ | (refine aIf_dec (fun _ => ?_) (fun _ => ?_) <;> conv => whnf))
    all_goals (first | (exfalso; omega) | contradiction | skip)
    all_goals refine retS rfl (congrArg AV.bool ?_)
    all_goals rw [hv]
    all_goals (first | exact (decide_eq_true (by omega)).symm | exact (decide_eq_false (by omega)).symm | exact Bool.eq_iff_iff.2 (by simp only [decide_eq_true_eq, beq_iff_eq, bne_iff_ne]; omega))
end Go.Proofs.YtjmdhfjemaoebaaGreat
namespace Go.Proofs.YtjmdhfjemaoebaaGreat
set_option maxRecDepth 20000
open Go.RowKit Go.Am
set_option linter.unusedSimpArgs false
attribute [local irreducible] aPlan aGet aIf aLoop aCall RetB NextB CallB CallG aCut aSet aAppend
set_option maxHeartbeats 8000000 in
theorem l6Ok_6 : Sound Tryz.prog 78 (sOk fun ch => ch = 6) := by
  refine sound_of Tryz.func78 rfl (enters_of Tryz.func78 (by kernel_rfl) (by kernel_rfl)) ?_
  rintro ⟨c, xss, ns, ch, q⟩ ⟨⟨hE, hM, hq⟩, hc⟩
  have hE : eP ns := hE
  have hM : (shM xss ns).2 = true := hM
  have hq : q < ns.length := hq
  have hc : ch = 6 := hc
  subst hc
  have hX := exI_of hM
  have h12 := hX.n12
  have hop := hX.op hq
  have hmax : maxLen = 9223372036854775807 := rfl
  have hpc := pcN_cases (ns.getD q default).op
  by_cases hz : pcN (ns.getD q default).op = 0
  · have hv : okC xss ns 6 q = decide ((ns.getD q default).op = 10 ∧ (ns.getD (ns.getD q default).a.toNat default).op = 10 ∧ (ns.getD q default).l.getD (Int.toNat 0) 0 = (ns.getD (ns.getD q default).a.toNat default).l.getD (Int.toNat 0) 0) := by rw [okC_s (by decide), cX_0 hz]; exact (decide_eq_false (by omega)).symm
    conv => whnf
    repeat' (first
      | ((first | refine plan_in (id := 6) [0, 1, 2, 3, 4, 6, 7, 5, 8, 9, 10, 11, 12, 13, 14, 15, 16, 17, 19, 20, 18, 21, 22, 23, 24] (by kernel_rfl) (by kernel_rfl) ?_ | refine plan_in (id := 16) [0, 1, 2, 3, 4, 5, 6, 7, 8, 9, 10, 11, 12, 13, 14, 15, 16, 17, 18, 19, 20, 21, 22, 23, 24, 25] (by kernel_rfl) (by kernel_rfl) ?_ | refine aIf_t ?_ | refine aIf_f ?_ | refine get_nat (by omega) ?_ | refine aGet_in rfl ?_ | refine And.intro (by omega) ?_ | refine load_same ?_ | refine And.intro rfl (And.intro (List.cons_ne_nil _ _) ?_) | refine And.intro (Nat.le_of_ble_eq_true rfl) ?_ | refine append_same ?_ | refine get_nd_n (by omega) rfl ?_ | refine part_nd_n (by omega) ?_); conv => whnf) | (refine l6Is_call (by first | omega | assumption | (refine ⟨?_, ?_⟩ <;> first | assumption | omega) | (refine ⟨?_, ?_, ?_⟩ <;> first | assumption | omega)) ?_; conv => whnf) | ((first | refine takeN_in ?_ | refine set_force ?_ | refine And.intro (by kernel_rfl) ?_); conv => whnf) | refine aIf_eqt ?_
      | (refine aIf_dec (fun _ => ?_) (fun _ => ?_) <;> conv => whnf))
    all_goals (first | (exfalso; omega) | contradiction | skip)
    all_goals refine retS rfl (congrArg AV.bool ?_)
    all_goals rw [hv]
    all_goals (first | exact (decide_eq_true (by omega)).symm | exact (decide_eq_false (by omega)).symm | exact Bool.eq_iff_iff.2 (by simp only [decide_eq_true_eq, beq_iff_eq, bne_iff_ne]; omega))
  · obtain ⟨ha, hb⟩ := hX.ab hq (by omega)
    have t0 : Int.toNat 0 = 0 := rfl
    obtain ⟨p6, p6'⟩ := hX.c6pre hq (by omega)
    have p6' : (ns.getD (ns.getD q default).a.toNat default).op = 10 → (ns.getD (ns.getD q default).a.toNat default).l.length = 3 := p6'
    have hv : okC xss ns 6 q = decide ((ns.getD q default).op = 10 ∧ (ns.getD (ns.getD q default).a.toNat default).op = 10 ∧ (ns.getD q default).l.getD (Int.toNat 0) 0 = (ns.getD (ns.getD q default).a.toNat default).l.getD (Int.toNat 0) 0) := by rw [okC_s (by decide), cX_6 hz]; exact ite_is
    conv => whnf
    repeat' (first
      | ((first | refine plan_in (id := 6) [0, 1, 2, 3, 4, 6, 7, 5, 8, 9, 10, 11, 12, 13, 14, 15, 16, 17, 19, 20, 18, 21, 22, 23, 24] (by kernel_rfl) (by kernel_rfl) ?_ | refine plan_in (id := 16) [0, 1, 2, 3, 4, 5, 6, 7, 8, 9, 10, 11, 12, 13, 14, 15, 16, 17, 18, 19, 20, 21, 22, 23, 24, 25] (by kernel_rfl) (by kernel_rfl) ?_ | refine aIf_t ?_ | refine aIf_f ?_ | refine get_int (by omega) ?_ | refine aGet_in rfl ?_ | refine And.intro (by omega) ?_ | refine load_same ?_ | refine And.intro rfl (And.intro (List.cons_ne_nil _ _) ?_) | refine And.intro (Nat.le_of_ble_eq_true rfl) ?_ | refine append_same ?_ | refine get_nd (by omega) rfl ?_ | refine part_nd_n (by omega) ?_ | refine And.intro (pureL_ii _ _) ?_ | refine And.intro (pureL_nd _ _) ?_); conv => whnf) | (refine l6Is_call (by first | omega | assumption | (refine ⟨?_, ?_⟩ <;> first | assumption | omega) | (refine ⟨?_, ?_, ?_⟩ <;> first | assumption | omega)) ?_; conv => whnf) | ((first | refine takeN_in ?_ | refine set_force ?_ | refine And.intro (by kernel_rfl) ?_); conv => whnf) | refine aIf_eqt ?_
      | (refine aIf_dec (fun _ => ?_) (fun _ => ?_) <;> conv => whnf))
    all_goals (first | (exfalso; omega) | contradiction | skip)
    all_goals refine retS rfl (congrArg AV.bool ?_)
    all_goals rw [hv]
    all_goals (first | exact (decide_eq_true (by omega)).symm | exact (decide_eq_false (by omega)).symm | exact Bool.eq_iff_iff.2 (by simp only [decide_eq_true_eq, beq_iff_eq, bne_iff_ne]; omega))
end Go.Proofs.YtjmdhfjemaoebaaGreat
namespace Go.Proofs.YtjmdhfjemaoebaaGreat
set_option maxRecDepth 20000
open Go.RowKit Go.Am
set_option linter.unusedSimpArgs false
attribute [local irreducible] aPlan aGet aIf aLoop aCall RetB NextB CallB CallG aCut aSet aAppend
set_option maxHeartbeats 8000000 in
theorem l6Ok_7 : Sound Tryz.prog 78 (sOk fun ch => ch = 7) := by
  refine sound_of Tryz.func78 rfl (enters_of Tryz.func78 (by kernel_rfl) (by kernel_rfl)) ?_
  rintro ⟨c, xss, ns, ch, q⟩ ⟨⟨hE, hM, hq⟩, hc⟩
  have hE : eP ns := hE
  have hM : (shM xss ns).2 = true := hM
  have hq : q < ns.length := hq
  have hc : ch = 7 := hc
  subst hc
  have hX := exI_of hM
  have h12 := hX.n12
  have hop := hX.op hq
  have hmax : maxLen = 9223372036854775807 := rfl
  have hpc := pcN_cases (ns.getD q default).op
  by_cases h10 : (ns.getD q default).op = 10
  · have ha := hX.a hq (by omega)
    have hz : pcN (ns.getD q default).op ≠ 0 := by omega
    have hp7 : (0 ≤ (ns.getD q default).a ∧ (ns.getD q default).a < ns.length) ∧ (ns.getD q default).op = 10 ∧ c7Pre (ns.getD q default) (nA ns (ns.getD q default)) (shM xss ns).1 := ⟨by omega, h10, hX.c7pre hq (by omega)⟩
    have hv : okC xss ns 7 q = (whM (ns.getD q default) (nA ns (ns.getD q default)) (shM xss ns).1).2 := by rw [okC_s (by decide), cX_7 hz]; exact whM_ok h10 (hX.c7pre hq (by omega))
    conv => whnf
    repeat' (first
      | ((first | refine plan_in (id := 6) [0, 1, 2, 3, 4, 6, 7, 5, 8, 9, 10, 11, 12, 13, 14, 15, 16, 17, 19, 20, 18, 21, 22, 23, 24] (by kernel_rfl) (by kernel_rfl) ?_ | refine plan_in (id := 16) [0, 1, 2, 3, 4, 5, 6, 7, 8, 9, 10, 11, 12, 13, 14, 15, 16, 17, 18, 19, 20, 21, 22, 23, 24, 25] (by kernel_rfl) (by kernel_rfl) ?_ | refine aIf_t ?_ | refine aIf_f ?_ | refine aGet_in rfl ?_ | refine And.intro (by omega) ?_ | refine load_same ?_ | refine And.intro rfl (And.intro (List.cons_ne_nil _ _) ?_) | refine And.intro (Nat.le_of_ble_eq_true rfl) ?_ | refine callG_t ?_ | refine append_same ?_ | refine part_nd_n (by omega) ?_ | refine And.intro (pureL_ii _ _) ?_ | refine And.intro (pureL_nd _ _) ?_ | refine cut_ii rfl ?_ | refine sShapesOf_call (by assumption) ?_ | refine l6Whole_call (by assumption) ?_ | refine takeN_in ?_ | refine And.intro (pureL_ints _ _) ?_ | refine set_force ?_ | refine And.intro (by kernel_rfl) ?_); conv => whnf) | refine aIf_not ?_
      | (refine aIf_dec (fun _ => ?_) (fun _ => ?_) <;> conv => whnf))
    all_goals (first | (exfalso; omega) | contradiction | skip)
    all_goals exact retS rfl (congrArg AV.bool hv.symm)
  · have hv : okC xss ns 7 q = false := by
      rw [okC_s (by decide)]
      by_cases hz : pcN (ns.getD q default).op = 0
      · rw [cX_0 hz]; rfl
      · rw [cX_7 hz]
        show (if c7P _ _ then _ else none : Option Nd).isSome = false
        rw [if_neg fun h : c7P _ _ => h10 h.1]; rfl
    conv => whnf
    repeat' (first
      | ((first | refine plan_in (id := 6) [0, 1, 2, 3, 4, 6, 7, 5, 8, 9, 10, 11, 12, 13, 14, 15, 16, 17, 19, 20, 18, 21, 22, 23, 24] (by kernel_rfl) (by kernel_rfl) ?_ | refine plan_in (id := 16) [0, 1, 2, 3, 4, 5, 6, 7, 8, 9, 10, 11, 12, 13, 14, 15, 16, 17, 18, 19, 20, 21, 22, 23, 24, 25] (by kernel_rfl) (by kernel_rfl) ?_ | refine aIf_t ?_ | refine aIf_f ?_ | refine aGet_in rfl ?_ | refine And.intro (by omega) ?_ | refine load_same ?_ | refine And.intro rfl (And.intro (List.cons_ne_nil _ _) ?_) | refine And.intro (Nat.le_of_ble_eq_true rfl) ?_ | refine callG_t ?_ | refine append_same ?_ | refine part_nd_n (by omega) ?_ | refine And.intro (pureL_ii _ _) ?_ | refine And.intro (pureL_nd _ _) ?_ | refine cut_ii rfl ?_ | refine sShapesOf_call (by assumption) ?_ | refine takeN_in ?_ | refine set_force ?_ | refine And.intro (by kernel_rfl) ?_); conv => whnf) | refine aIf_not ?_
      | (refine aIf_dec (fun _ => ?_) (fun _ => ?_) <;> conv => whnf))
    all_goals (first | (exfalso; omega) | contradiction | skip)
    all_goals exact retS rfl (congrArg AV.bool (by rw [hv]))
end Go.Proofs.YtjmdhfjemaoebaaGreat
namespace Go.Proofs.YtjmdhfjemaoebaaGreat
set_option maxRecDepth 20000
open Go.RowKit Go.Am
set_option linter.unusedSimpArgs false
attribute [local irreducible] aPlan aGet aIf aLoop aCall RetB NextB CallB CallG aCut aSet aAppend
theorem l6Ok_sound : Sound Tryz.prog 78 (sOk fun ch => 0 ≤ ch ∧ ch ≤ 8) := by
  refine ⟨l6Ok_0.1, ?_⟩
  rintro ⟨c, xss, ns, ch, q⟩ ⟨h, hc⟩
  have hc : 0 ≤ ch ∧ ch ≤ 8 := hc
  rcases (show ch = 0 ∨ ch = 1 ∨ ch = 2 ∨ ch = 3 ∨ ch = 4 ∨ ch = 5 ∨ ch = 6 ∨ ch = 7 ∨ ch = 8 by omega) with e | e | e | e | e | e | e | e | e
  · exact l6Ok_0.2 (c, xss, ns, ch, q) ⟨h, e⟩
  · exact l6Ok_1.2 (c, xss, ns, ch, q) ⟨h, e⟩
  · exact l6Ok_2.2 (c, xss, ns, ch, q) ⟨h, e⟩
  · exact l6Ok_3.2 (c, xss, ns, ch, q) ⟨h, e⟩
  · exact l6Ok_4.2 (c, xss, ns, ch, q) ⟨h, e⟩
  · exact l6Ok_5.2 (c, xss, ns, ch, q) ⟨h, e⟩
  · exact l6Ok_6.2 (c, xss, ns, ch, q) ⟨h, e⟩
  · exact l6Ok_7.2 (c, xss, ns, ch, q) ⟨h, e⟩
  · exact l6Ok_8.2 (c, xss, ns, ch, q) ⟨h, e⟩
theorem l6Ok_call {c q : Nat} {ch : Int} {xss : List (List Int)} {ns : List Nd} {env : List AV} {rows : List Row} {ctr low : Nat} {k : AV → St → Prop} (hE : eP ns) (hM : (shM xss ns).2 = true) (hq : q < ns.length) (hc : 0 ≤ ch ∧ ch ≤ 8) (h : k (.bool (okC xss ns ch q)) ⟨env, rows, ctr + 1, low⟩) :
    CallB Tryz.prog 78 ⟨env, rows, ctr, low⟩ [.agg [.sl c xss.length (xss.map (slI c)), .sl c ns.length (ns.flatMap (ndC c))], .int .i64 ch, .int .i64 q] k := callS_in l6Ok_sound (c, xss, ns, ch, q) ⟨⟨hE, hM, hq⟩, hc⟩ rfl h
def okV (xss : List (List Int)) (ns : List Nd) (ch p : Int) : Bool := if (shM xss ns).2 = true ∧ 0 ≤ p ∧ p < ns.length then okC xss ns ch p.toNat else false
theorem okC_n {xss : List (List Int)} {ns : List Nd} {ch : Int} {p : Nat} (h : ¬ (0 ≤ ch ∧ ch ≤ 8)) : okC xss ns ch p = false := by
  rw [okC_s (by omega)]
  by_cases hz : pcN (ns.getD p default).op = 0
  · rw [cX_0 hz]; rfl
  · rw [cX_n hz (by omega)]; rfl
def sChangeOk : CSpec := fnS (ι := Nat × List (List Int) × List Nd × Int × Int) (fun | (c, xss, ns, ch, p) => [.agg [.sl c xss.length (xss.map (slI c)), .sl c ns.length (ns.flatMap (ndC c))], .int .i64 ch, .int .i64 p]) (fun | (_, _, ns, _, _) => eP ns) (fun | (_, xss, ns, ch, p) => .bool (okV xss ns ch p))
set_option maxHeartbeats 8000000 in
theorem sChangeOk_sound : Sound Tryz.prog 80 sChangeOk := by
  refine sound_of Tryz.func80 rfl (enters_of Tryz.func80 (by kernel_rfl) (by kernel_rfl)) ?_
  rintro ⟨c, xss, ns, ch, p⟩ hpre
  have hE : eP ns := hpre
  have hmax : maxLen = 9223372036854775807 := rfl
  cases hM : (shM xss ns).2 with
  | false =>
    have hv : okV xss ns ch p = false := if_neg fun h => Bool.false_ne_true (hM.symm.trans h.1)
    conv => whnf
    repeat' (first
      | ((first | refine aIf_f ?_ | refine load_same ?_ | refine And.intro rfl (And.intro (List.cons_ne_nil _ _) ?_) | refine And.intro (Nat.le_of_ble_eq_true rfl) ?_ | refine callG_t ?_ | refine append_same ?_ | refine And.intro (pureL_ii _ _) ?_ | refine And.intro (pureL_nd _ _) ?_); conv => whnf) | (refine sExprOk_call (by first | omega | assumption | (refine ⟨?_, ?_⟩ <;> first | assumption | omega) | (refine ⟨?_, ?_, ?_⟩ <;> first | assumption | omega)) ?_; conv => whnf) | ((first | refine takeN_in ?_ | refine And.intro (by kernel_rfl) ?_ | refine aIf_ff (by assumption) ?_); conv => whnf) | refine aIf_eqt ?_)
    exact retS rfl (congrArg AV.bool hv.symm)
  | true =>
    have h12 := (exI_of hM).n12
    have h1 := (exI_of hM).n1
    have hw : IntKind.i64.wrap ((ns.length : Int) - 1) = ns.length - 1 := IntWalk.i64_in _ (by omega)
    by_cases hp : 0 ≤ p ∧ p < ns.length
    · obtain ⟨q, rfl⟩ : ∃ q : Nat, p = q := ⟨p.toNat, by omega⟩
      have hv : okV xss ns ch q = okC xss ns ch q := (if_pos ⟨hM, hp⟩).trans (by rw [Int.toNat_natCast])
      by_cases hc : 0 ≤ ch ∧ ch ≤ 8
      · conv => whnf
        repeat' (first
          | ((first | refine aIf_t ?_ | refine aIf_f ?_ | refine fun (_ : _ ≤ maxLen) => ?_ | refine aGet_in rfl ?_ | refine load_same ?_ | refine And.intro rfl (And.intro (List.cons_ne_nil _ _) ?_) | refine And.intro (Nat.le_of_ble_eq_true rfl) ?_ | refine callG_t ?_ | refine append_same ?_ | refine And.intro (pureL_ii _ _) ?_ | refine And.intro (pureL_nd _ _) ?_); conv => whnf) | (refine sExprOk_call (by first | omega | assumption | (refine ⟨?_, ?_⟩ <;> first | assumption | omega) | (refine ⟨?_, ?_, ?_⟩ <;> first | assumption | omega)) ?_; conv => whnf) | ((first | refine l6Ok_call (by assumption) (by assumption) (by omega) (by omega) ?_ | refine takeN_in ?_ | refine in_call ?_ | refine And.intro (by kernel_rfl) ?_ | refine aIf_tt (by assumption) ?_); conv => whnf) | refine aIf_eqt ?_
          | (refine aIf_dec (fun _ => ?_) (fun _ => ?_) <;> conv => whnf))
        all_goals (first | (exfalso; omega) | contradiction | skip)
        all_goals exact retS rfl (congrArg AV.bool hv.symm)
      · have hv : okV xss ns ch q = false := hv.trans (okC_n hc)
        conv => whnf
        repeat' (first
          | ((first | refine aIf_t ?_ | refine aIf_f ?_ | refine fun (_ : _ ≤ maxLen) => ?_ | refine aGet_in rfl ?_ | refine And.intro (by omega) ?_ | refine load_same ?_ | refine And.intro rfl (And.intro (List.cons_ne_nil _ _) ?_) | refine And.intro (Nat.le_of_ble_eq_true rfl) ?_ | refine callG_t ?_ | refine append_same ?_ | refine And.intro (pureL_ii _ _) ?_ | refine And.intro (pureL_nd _ _) ?_); conv => whnf) | (refine sExprOk_call (by first | omega | assumption | (refine ⟨?_, ?_⟩ <;> first | assumption | omega) | (refine ⟨?_, ?_, ?_⟩ <;> first | assumption | omega)) ?_; conv => whnf) | ((first | refine l6Ok_call (by assumption) (by assumption) (by omega) (by omega) ?_ | refine takeN_in ?_ | refine in_call ?_ | refine And.intro (by kernel_rfl) ?_ | refine aIf_tt (by assumption) ?_); conv => whnf) | refine aIf_eqt ?_
          | (refine aIf_dec (fun _ => ?_) (fun _ => ?_) <;> conv => whnf))
        all_goals (first | (exfalso; omega) | contradiction | skip)
        all_goals exact retS rfl (congrArg AV.bool hv.symm)
    · have hv : okV xss ns ch p = false := if_neg fun h => hp h.2
      conv => whnf
      repeat' (first
        | ((first | refine aIf_t ?_ | refine aIf_f ?_ | refine fun (_ : _ ≤ maxLen) => ?_ | refine aGet_in rfl ?_ | refine And.intro (by omega) ?_ | refine load_same ?_ | refine And.intro rfl (And.intro (List.cons_ne_nil _ _) ?_) | refine And.intro (Nat.le_of_ble_eq_true rfl) ?_ | refine callG_t ?_ | refine append_same ?_ | refine And.intro (pureL_ii _ _) ?_ | refine And.intro (pureL_nd _ _) ?_); conv => whnf) | (refine sExprOk_call (by first | omega | assumption | (refine ⟨?_, ?_⟩ <;> first | assumption | omega) | (refine ⟨?_, ?_, ?_⟩ <;> first | assumption | omega)) ?_; conv => whnf) | ((first | refine takeN_in ?_ | refine in_call ?_ | refine And.intro (by kernel_rfl) ?_ | refine aIf_tt (by assumption) ?_); conv => whnf) | refine aIf_eqt ?_
        | (refine aIf_dec (fun _ => ?_) (fun _ => ?_) <;> conv => whnf))
      all_goals (first | (exfalso; omega) | contradiction | skip)
      all_goals exact retS rfl (congrArg AV.bool hv.symm)
theorem sChangeOk_call {c : Nat} {ch p : Int} {xss : List (List Int)} {ns : List Nd} {env : List AV} {rows : List Row} {ctr low : Nat} {k : AV → St → Prop} (hpre : eP ns) (h : k (.bool (okV xss ns ch p)) ⟨env, rows, ctr + 1, low⟩) :
    CallB Tryz.prog 80 ⟨env, rows, ctr, low⟩ [.agg [.sl c xss.length (xss.map (slI c)), .sl c ns.length (ns.flatMap (ndC c))], .int .i64 ch, .int .i64 p] k := callS_in sChangeOk_sound (c, xss, ns, ch, p) hpre rfl h
end Go.Proofs.YtjmdhfjemaoebaaGreat
