import Derived.Test.YtjmdhfjemaoebaaM12x1
import Derived.Test.YtjmdhfjemaoebaaT8
/- Chapter 7: DotOf of both sides. -/
namespace Go.Proofs.Ytjmdhfjemaoebaa
set_option maxRecDepth 20000
open Go.RowKit Go.Am
set_option linter.unusedSimpArgs false
attribute [local irreducible] aPlan aGet aIf aLoop aCall RetB NextB CallB CallG aCut aSet aAppend
def sSmall : CSpec := fnS (ι := Nat × List Int × Nat × List Int) (fun | (c, xs, d, zs) => [.agg [.sl c xs.length (xs.map (.int .i64)), .sl d zs.length (zs.map (.int .i64))]]) (fun _ => True) (fun | (_, xs, _, zs) => .bool (smOk xs zs))
theorem dotOk_sound : Sound Try.prog 62 sSmall := by
  refine sound_of Try.func62 rfl (enters_of Try.func62 (by kernel_rfl) (by kernel_rfl)) ?_
  rintro ⟨c, xs, d, zs⟩ -
  cases ht : tensorOk xs zs with
  | false =>
    have hM := smOk_f ht
    conv => whnf
    repeat' (first
      | (refine aIf_f ?_; conv => whnf)
      | (refine load_same ?_; conv => whnf)
      | (refine And.intro rfl (And.intro (List.cons_ne_nil _ _) ?_); conv => whnf)
      | (refine And.intro (Nat.le_of_ble_eq_true rfl) ?_; conv => whnf)
      | (refine callG_t ?_; conv => whnf)
      | (refine iTensorOk_call ?_; conv => whnf)
      | (refine append_same ?_; conv => whnf)
      | (refine takeN_in ?_; conv => whnf)
      | (refine And.intro (pureL_ints _ _) ?_; conv => whnf)
      | (refine And.intro (by kernel_rfl) ?_; conv => whnf)
      | (refine aIf_ff (by assumption) ?_; conv => whnf)
      | refine aIf_eqt ?_)
    all_goals exact retS rfl (congrArg AV.bool hM.symm)
  | true =>
    have hM := smOk_t ht
    conv => whnf
    repeat' (first
      | (refine aIf_t ?_; conv => whnf)
      | (refine aGet_in rfl ?_; conv => whnf)
      | (refine load_same ?_; conv => whnf)
      | (refine And.intro rfl (And.intro (List.cons_ne_nil _ _) ?_); conv => whnf)
      | (refine And.intro (Nat.le_of_ble_eq_true rfl) ?_; conv => whnf)
      | (refine callG_t ?_; conv => whnf)
      | (refine iTensorOk_call ?_; conv => whnf)
      | (refine allBetween_call trivial ?_; conv => whnf)
      | (refine append_same ?_; conv => whnf)
      | (refine takeN_in ?_; conv => whnf)
      | (refine And.intro (pureL_ints _ _) ?_; conv => whnf)
      | (refine And.intro (by kernel_rfl) ?_; conv => whnf)
      | (refine aIf_tt (by assumption) ?_; conv => whnf)
      | refine aIf_eqt ?_)
    all_goals exact retS rfl (congrArg AV.bool hM.symm)
theorem dotOk_call {c d : Nat} {xs zs : List Int} {env : List AV} {rows : List Row} {ctr low : Nat} {k : AV → St → Prop} (hpre : True) (h : k (.bool (smOk xs zs)) ⟨env, rows, ctr + 1, low⟩) :
    CallB Try.prog 62 ⟨env, rows, ctr, low⟩ [.agg [.sl c xs.length (xs.map (.int .i64)), .sl d zs.length (zs.map (.int .i64))]] k := callS_in dotOk_sound (c, xs, d, zs) hpre rfl h
theorem btw_all {zs : List Int} {a b : Int} (h : ∀ j, j < zs.length → a ≤ zs.getD j 0 ∧ zs.getD j 0 ≤ b) : btw zs a b = true := (btw_iff _ _ _).2 h
theorem smOk_y {xs zs : List Int} (h : ∀ j, j < zs.length → -100000000 ≤ zs.getD j 0 ∧ zs.getD j 0 ≤ 100000000) : tensorOk xs zs = smOk xs zs := by
  unfold smOk; rw [btw_all h, Bool.and_true]
theorem smOk_n {xs zs : List Int} {k : Nat} (hk : k < zs.length) (h : ¬ (-100000000 ≤ zs.getD k 0 ∧ zs.getD k 0 ≤ 100000000)) : smOk xs zs = false := by
  cases e : smOk xs zs with
  | false => rfl
  | true => exact absurd ((btw_iff _ _ _).1 (smOk_b e) k hk) h
set_option maxHeartbeats 4000000 in
theorem l7Small_sound : Sound Try.prog 59 sSmall := by
  refine sound_of Try.func59 rfl (enters_of Try.func59 (by kernel_rfl) (by kernel_rfl)) ?_
  rintro ⟨c, xs, d, zs⟩ -
  have hmax : maxLen = 9223372036854775807 := rfl
  conv => whnf
  repeat' (first
    | (refine And.intro rfl (And.intro (List.cons_ne_nil _ _) ?_); conv => whnf)
    | (refine append_same ?_; conv => whnf))
  refine loop_u (ι := Nat) [false, true, false, true, false, false, false, false, false, false, false, false, false, false, false, false, false, false, false, false] (fun k => [(3, .int .i64 k)]) (fun _ => []) (fun k => k ≤ zs.length ∧ ∀ j, j < k → -100000000 ≤ zs.getD j 0 ∧ zs.getD j 0 ≤ 100000000) (fun k => zs.length - k) (0) ⟨Nat.zero_le _, fun j hj => absurd hj (Nat.not_lt_zero _)⟩ ?_ ?_
  · conv => whnf
    repeat' (first
      | exact trivial
      | exact rfl
      | exact Or.inl (And.intro (pureL_pair _ _ _ _ _ _) rfl)
      | refine And.intro ?_ ?_
      | exact Nat.le_of_ble_eq_true rfl)
  · rintro k ⟨hk, hall⟩
    have hk : k ≤ zs.length := hk
    have hall : ∀ j, j < k → -100000000 ≤ zs.getD j 0 ∧ zs.getD j 0 ≤ 100000000 := hall
    by_cases hlt : k < zs.length
    · by_cases hin : -100000000 ≤ zs.getD k 0 ∧ zs.getD k 0 ≤ 100000000
      · conv => whnf
        repeat' (first
          | (refine fun (_ : _ ≤ maxLen) => ?_; conv => whnf)
          | (refine get_nat (by omega) ?_; conv => whnf)
          | (refine aGet_in rfl ?_; conv => whnf)
          | (refine And.intro (by omega) ?_; conv => whnf)
          | (refine load_same ?_; conv => whnf)
          | (refine callG_t ?_; conv => whnf)
          | (refine sTensorOk_call ?_; conv => whnf)
          | (refine append_same ?_; conv => whnf)
          | (refine takeN_in ?_; conv => whnf)
          | (refine in_call ?_; conv => whnf)
          | refine aIf_not ?_
          | (refine aIf_dec (fun _ => ?_) (fun _ => ?_) <;> conv => whnf))
        all_goals (first | (exfalso; omega) | contradiction | skip)
        refine next_u (k + 1) (show zs.length - (k + 1) < zs.length - k by omega) ⟨(by omega : k + 1 ≤ zs.length), fun j hj => (Nat.lt_succ_iff_lt_or_eq.1 hj).elim (hall j) (fun e => e ▸ hin)⟩ ?_
        conv => whnf
        repeat' (first
          | exact trivial
          | exact rfl
          | exact Or.inl (And.intro (pureL_pair _ _ _ _ _ _) rfl)
          | refine And.intro ?_ ?_
          | exact Nat.le_of_ble_eq_true rfl
          | exact int_eq (by rw [IntWalk.i64_in _ (by omega)] <;> omega))
      · have hM := smOk_n (xs := xs) hlt hin
        conv => whnf
        repeat' (first
          | (refine fun (_ : _ ≤ maxLen) => ?_; conv => whnf)
          | (refine get_nat (by omega) ?_; conv => whnf)
          | (refine aGet_in rfl ?_; conv => whnf)
          | (refine And.intro (by omega) ?_; conv => whnf)
          | (refine load_same ?_; conv => whnf)
          | (refine callG_t ?_; conv => whnf)
          | (refine sTensorOk_call ?_; conv => whnf)
          | (refine append_same ?_; conv => whnf)
          | (refine takeN_in ?_; conv => whnf)
          | (refine in_call ?_; conv => whnf)
          | refine aIf_not ?_
          | (refine aIf_dec (fun _ => ?_) (fun _ => ?_) <;> conv => whnf))
        all_goals (first | (exfalso; omega) | contradiction | skip)
        all_goals exact retS rfl (congrArg AV.bool hM.symm)
    · have hM := smOk_y (xs := xs) (zs := zs) fun j hj => hall j (by omega)
      conv => whnf
      repeat' (first
        | (refine fun (_ : _ ≤ maxLen) => ?_; conv => whnf)
        | (refine get_nat (by omega) ?_; conv => whnf)
        | (refine aGet_in rfl ?_; conv => whnf)
        | (refine And.intro (by omega) ?_; conv => whnf)
        | (refine load_same ?_; conv => whnf)
        | (refine And.intro (Nat.le_of_ble_eq_true rfl) ?_; conv => whnf)
        | (refine callG_t ?_; conv => whnf)
        | (refine sTensorOk_call ?_; conv => whnf)
        | (refine append_same ?_; conv => whnf)
        | (refine takeN_in ?_; conv => whnf)
        | (refine And.intro (pureL_ints _ _) ?_; conv => whnf)
        | (refine in_call ?_; conv => whnf)
        | (refine And.intro (by kernel_rfl) ?_; conv => whnf)
        | refine aIf_not ?_
        | (refine aIf_dec (fun _ => ?_) (fun _ => ?_) <;> conv => whnf))
      all_goals (first | (exfalso; omega) | contradiction | skip)
      all_goals exact retS rfl (congrArg AV.bool hM)
theorem l7Small_call {c d : Nat} {xs zs : List Int} {env : List AV} {rows : List Row} {ctr low : Nat} {k : AV → St → Prop} (hpre : True) (h : k (.bool (smOk xs zs)) ⟨env, rows, ctr + 1, low⟩) :
    CallB Try.prog 59 ⟨env, rows, ctr, low⟩ [.agg [.sl c xs.length (xs.map (.int .i64)), .sl d zs.length (zs.map (.int .i64))]] k := callS_in l7Small_sound (c, xs, d, zs) hpre rfl h
def sDot7 : CSpec := fnS (ι := Nat × List Int × Nat × List Int × Nat × List Int × Nat × List Int) (fun | (c, xs, d, zs, e, ps, f, qs) => [.agg [.sl c xs.length (xs.map (.int .i64)), .sl d zs.length (zs.map (.int .i64))], .agg [.sl e ps.length (ps.map (.int .i64)), .sl f qs.length (qs.map (.int .i64))]]) (fun | (_, _, _, zs, _, _, _, qs) => qs.length = zs.length) (fun | (_, _, _, zs, _, _, _, qs) => .int .i64 (dtP zs qs zs.length))
set_option maxHeartbeats 4000000 in
theorem l7Dot_sound : Sound Try.prog 61 sDot7 := by
  refine sound_of Try.func61 rfl (enters_of Try.func61 (by kernel_rfl) (by kernel_rfl)) ?_
  rintro ⟨c, xs, d, zs, e, ps, f, qs⟩ hpre
  have hpre : qs.length = zs.length := hpre
  have hmax : maxLen = 9223372036854775807 := rfl
  conv => whnf
  repeat' (first
    | (refine plan_in (id := 5) [0, 1, 2, 3, 4, 5, 6, 7, 8, 9, 10, 11, 12, 13] (by kernel_rfl) (by kernel_rfl) ?_; conv => whnf)
    | (refine And.intro rfl (And.intro (List.cons_ne_nil _ _) ?_); conv => whnf)
    | (refine append_same ?_; conv => whnf))
  refine loop_u (ι := Nat) [false, false, true, true, false, true, true, false, false, false, false, false, false, false, false, false, false, false, false, false, false, false, false, false, false, false, false, false] (fun k => [(5, .int .i64 (dtP zs qs k)), (6, .int .i64 k)]) (fun _ => []) (fun k => k ≤ zs.length) (fun k => zs.length - k) (0) (Nat.zero_le _) ?_ ?_
  · conv => whnf
    repeat' (first
      | exact trivial
      | exact rfl
      | exact Or.inl (And.intro (pureL_pair _ _ _ _ _ _) rfl)
      | refine And.intro ?_ ?_
      | exact Nat.le_of_ble_eq_true rfl)
  · intro k hk
    have hk : k ≤ zs.length := hk
    by_cases hlt : k < zs.length
    · conv => whnf
      repeat' (first
        | (refine plan_in (id := 5) [0, 1, 2, 3, 4, 5, 6, 7, 8, 9, 10, 11, 12, 13] (by kernel_rfl) (by kernel_rfl) ?_; conv => whnf)
        | (refine fun (_ : _ ≤ maxLen) => ?_; conv => whnf)
        | (refine get_nat (by omega) ?_; conv => whnf)
        | (refine aGet_in rfl ?_; conv => whnf)
        | (refine And.intro (by omega) ?_; conv => whnf)
        | (refine append_same ?_; conv => whnf)
        | (refine aIf_dec (fun _ => ?_) (fun _ => ?_) <;> conv => whnf))
      all_goals (first | (exfalso; omega) | contradiction | skip)
      refine next_u (k + 1) (show zs.length - (k + 1) < zs.length - k by omega) (by exact (by omega : k + 1 ≤ zs.length)) ?_
      conv => whnf
      repeat' (first
        | exact trivial
        | exact rfl
        | exact Or.inl (And.intro (pureL_pair _ _ _ _ _ _) rfl)
        | refine And.intro ?_ ?_
        | exact Nat.le_of_ble_eq_true rfl
        | exact int_eq (by rw [IntWalk.i64_in _ (by omega)] <;> omega))
    · have he : k = zs.length := by omega
      subst he
      conv => whnf
      repeat' (first
        | (refine plan_in (id := 5) [0, 1, 2, 3, 4, 5, 6, 7, 8, 9, 10, 11, 12, 13] (by kernel_rfl) (by kernel_rfl) ?_; conv => whnf)
        | (refine fun (_ : _ ≤ maxLen) => ?_; conv => whnf)
        | (refine get_nat (by omega) ?_; conv => whnf)
        | (refine aGet_in rfl ?_; conv => whnf)
        | (refine And.intro (by omega) ?_; conv => whnf)
        | (refine append_same ?_; conv => whnf)
        | (refine aIf_dec (fun _ => ?_) (fun _ => ?_) <;> conv => whnf))
      all_goals (first | (exfalso; omega) | contradiction | skip)
      exact retS rfl rfl
theorem l7Dot_call {c d e f : Nat} {xs zs ps qs : List Int} {env : List AV} {rows : List Row} {ctr low : Nat} {k : AV → St → Prop} (hpre : qs.length = zs.length) (h : k (.int .i64 (dtP zs qs zs.length)) ⟨env, rows, ctr + 1, low⟩) :
    CallB Try.prog 61 ⟨env, rows, ctr, low⟩ [.agg [.sl c xs.length (xs.map (.int .i64)), .sl d zs.length (zs.map (.int .i64))], .agg [.sl e ps.length (ps.map (.int .i64)), .sl f qs.length (qs.map (.int .i64))]] k := callS_in l7Dot_sound (c, xs, d, zs, e, ps, f, qs) hpre rfl h
def sDotOf : CSpec := fnIB (ι := Nat × List Int × Nat × List Int × Nat × List Int × Nat × List Int) (fun | (c, xs, d, zs, e, ps, f, qs) => [.agg [.sl c xs.length (xs.map (.int .i64)), .sl d zs.length (zs.map (.int .i64))], .agg [.sl e ps.length (ps.map (.int .i64)), .sl f qs.length (qs.map (.int .i64))]]) (fun _ => True) (fun | (_, xs, _, zs, _, ps, _, qs) => dtM xs zs ps qs)
set_option maxHeartbeats 4000000 in
theorem sDotOf_sound : Sound Try.prog 17 sDotOf := by
  refine sound_of Try.func17 rfl (enters_of Try.func17 (by kernel_rfl) (by kernel_rfl)) ?_
  rintro ⟨c, xs, d, zs, e, ps, f, qs⟩ -
  by_cases hC : dtC xs zs ps qs
  · have hM := dtM_t hC
    obtain ⟨h1, h2, h3⟩ := hC
    have hl := dtC_len (smOk_ten h1) (smOk_ten h2) h3
    conv => whnf
    repeat' (first
      | (refine aIf_t ?_; conv => whnf)
      | (refine aIf_f ?_; conv => whnf)
      | (refine aGet_in rfl ?_; conv => whnf)
      | (refine load_same ?_; conv => whnf)
      | (refine And.intro rfl (And.intro (List.cons_ne_nil _ _) ?_); conv => whnf)
      | (refine And.intro (Nat.le_of_ble_eq_true rfl) ?_; conv => whnf)
      | (refine callG_t ?_; conv => whnf)
      | (refine append_same ?_; conv => whnf)
      | (refine l7Small_call trivial ?_; conv => whnf)
      | (refine l7Dot_call (by omega) ?_; conv => whnf)
      | (refine takeN_in ?_; conv => whnf)
      | (refine And.intro (pureL_ints _ _) ?_; conv => whnf)
      | (refine l1Same_call ?_; conv => whnf)
      | (refine And.intro (by kernel_rfl) ?_; conv => whnf)
      | (refine aIf_tt (by assumption) ?_; conv => whnf)
      | refine aIf_eqf ?_
      | refine aIf_not ?_
      | (refine aIf_dec (fun _ => ?_) (fun _ => ?_) <;> conv => whnf))
    all_goals (first | (exfalso; omega) | contradiction | skip)
    all_goals exact retIB hM
  · have hM := dtM_f hC
    cases h1 : smOk xs zs with
    | false =>
      conv => whnf
      repeat' (first
        | (refine aIf_t ?_; conv => whnf)
        | (refine aIf_f ?_; conv => whnf)
        | (refine load_same ?_; conv => whnf)
        | (refine And.intro rfl (And.intro (List.cons_ne_nil _ _) ?_); conv => whnf)
        | (refine And.intro (Nat.le_of_ble_eq_true rfl) ?_; conv => whnf)
        | (refine callG_t ?_; conv => whnf)
        | (refine append_same ?_; conv => whnf)
        | (refine l7Small_call trivial ?_; conv => whnf)
        | (refine takeN_in ?_; conv => whnf)
        | (refine And.intro (pureL_ints _ _) ?_; conv => whnf)
        | (refine And.intro (by kernel_rfl) ?_; conv => whnf)
        | (refine aIf_ff (by assumption) ?_; conv => whnf)
        | refine aIf_eqf ?_
        | refine aIf_not ?_)
      all_goals (first | (exfalso; omega) | contradiction | skip)
      all_goals exact retIB hM
    | true =>
      cases h2 : smOk ps qs with
      | false =>
        conv => whnf
        repeat' (first
          | (refine aIf_t ?_; conv => whnf)
          | (refine aIf_f ?_; conv => whnf)
          | (refine load_same ?_; conv => whnf)
          | (refine And.intro rfl (And.intro (List.cons_ne_nil _ _) ?_); conv => whnf)
          | (refine And.intro (Nat.le_of_ble_eq_true rfl) ?_; conv => whnf)
          | (refine callG_t ?_; conv => whnf)
          | (refine append_same ?_; conv => whnf)
          | (refine l7Small_call trivial ?_; conv => whnf)
          | (refine takeN_in ?_; conv => whnf)
          | (refine And.intro (pureL_ints _ _) ?_; conv => whnf)
          | (refine And.intro (by kernel_rfl) ?_; conv => whnf)
          | (refine aIf_tt (by assumption) ?_; conv => whnf)
          | (refine aIf_ff (by assumption) ?_; conv => whnf)
          | refine aIf_eqf ?_
          | refine aIf_not ?_)
        all_goals (first | (exfalso; omega) | contradiction | skip)
        all_goals exact retIB hM
      | true =>
        have h3 : ¬ xs = ps := fun e => hC ⟨h1, h2, e⟩
        conv => whnf
        repeat' (first
          | (refine aIf_t ?_; conv => whnf)
          | (refine aIf_f ?_; conv => whnf)
          | (refine aGet_in rfl ?_; conv => whnf)
          | (refine load_same ?_; conv => whnf)
          | (refine And.intro rfl (And.intro (List.cons_ne_nil _ _) ?_); conv => whnf)
          | (refine And.intro (Nat.le_of_ble_eq_true rfl) ?_; conv => whnf)
          | (refine callG_t ?_; conv => whnf)
          | (refine append_same ?_; conv => whnf)
          | (refine l7Small_call trivial ?_; conv => whnf)
          | (refine takeN_in ?_; conv => whnf)
          | (refine And.intro (pureL_ints _ _) ?_; conv => whnf)
          | (refine l1Same_call ?_; conv => whnf)
          | (refine And.intro (by kernel_rfl) ?_; conv => whnf)
          | (refine aIf_tt (by assumption) ?_; conv => whnf)
          | refine aIf_eqf ?_
          | refine aIf_not ?_
          | (refine aIf_dec (fun _ => ?_) (fun _ => ?_) <;> conv => whnf))
        all_goals (first | (exfalso; omega) | contradiction | skip)
        all_goals exact retIB hM
set_option maxHeartbeats 4000000 in
theorem iDotOf_sound : Sound Try.prog 19 sDotOf := by
  refine sound_of Try.func19 rfl (enters_of Try.func19 (by kernel_rfl) (by kernel_rfl)) ?_
  rintro ⟨c, xs, d, zs, e, ps, f, qs⟩ -
  have hmax : maxLen = 9223372036854775807 := rfl
  by_cases hC : dtC xs zs ps qs
  · have hM := dtM_t hC
    obtain ⟨h1, h2, h3⟩ := hC
    have hl := dtC_len (smOk_ten h1) (smOk_ten h2) h3
    conv => whnf
    repeat' (first
      | (refine aIf_t ?_; conv => whnf)
      | (refine aIf_f ?_; conv => whnf)
      | (refine fun (_ : _ ≤ maxLen) => ?_; conv => whnf)
      | (refine aGet_in rfl ?_; conv => whnf)
      | (refine load_same ?_; conv => whnf)
      | (refine And.intro rfl (And.intro (List.cons_ne_nil _ _) ?_); conv => whnf)
      | (refine And.intro (Nat.le_of_ble_eq_true rfl) ?_; conv => whnf)
      | (refine callG_t ?_; conv => whnf)
      | (refine append_same ?_; conv => whnf)
      | (refine dotOk_call trivial ?_; conv => whnf)
      | (refine takeN_in ?_; conv => whnf)
      | (refine And.intro (pureL_ints _ _) ?_; conv => whnf)
      | (refine sameNums_call ?_; conv => whnf)
      | (refine And.intro (by kernel_rfl) ?_; conv => whnf)
      | (refine aIf_tt (by assumption) ?_; conv => whnf)
      | refine aIf_eqf ?_
      | refine aIf_not ?_
      | (refine aIf_dec (fun _ => ?_) (fun _ => ?_) <;> conv => whnf))
    all_goals (first | (exfalso; omega) | contradiction | skip)
    refine loop_u (ι := Nat) [false, false, false, true, false, false, true, false, false, false, false, false, false, false, false, false, false, false, false, false, false, false, false, false, false, false, true, true, true, false, false, false, false, false, false, false, false, false, false, false, false, false, false, false] (fun k => [(6, .int .i64 (dtP zs qs k)), (28, .int .i64 k)]) (fun _ => []) (fun k => k ≤ zs.length) (fun k => zs.length - k) (0) (Nat.zero_le _) ?_ ?_
    · conv => whnf
      repeat' (first
        | exact trivial
        | exact rfl
        | exact pureL_ints _ _
        | exact Or.inl (And.intro (pureL_pair _ _ _ _ _ _) rfl)
        | refine And.intro ?_ ?_
        | exact Nat.le_of_ble_eq_true rfl)
    · intro k hk
      have hk : k ≤ zs.length := hk
      by_cases hlt : k < zs.length
      · conv => whnf
        repeat' (first
          | (refine get_nat (by omega) ?_; conv => whnf)
          | (refine aGet_in rfl ?_; conv => whnf)
          | (refine And.intro (by omega) ?_; conv => whnf)
          | (refine append_same ?_; conv => whnf)
          | (refine aIf_dec (fun _ => ?_) (fun _ => ?_) <;> conv => whnf))
        all_goals (first | (exfalso; omega) | contradiction | skip)
        refine next_u (k + 1) (show zs.length - (k + 1) < zs.length - k by omega) (by exact (by omega : k + 1 ≤ zs.length)) ?_
        conv => whnf
        repeat' (first
          | exact trivial
          | exact rfl
          | exact pureL_ints _ _
          | exact Or.inl (And.intro (pureL_pair _ _ _ _ _ _) rfl)
          | refine And.intro ?_ ?_
          | exact Nat.le_of_ble_eq_true rfl
          | exact int_eq (by rw [IntWalk.i64_in _ (by omega)] <;> omega))
      · have he : k = zs.length := by omega
        subst he
        conv => whnf
        repeat' (first
          | (refine get_nat (by omega) ?_; conv => whnf)
          | (refine aGet_in rfl ?_; conv => whnf)
          | (refine And.intro (by omega) ?_; conv => whnf)
          | (refine append_same ?_; conv => whnf)
          | (refine aIf_dec (fun _ => ?_) (fun _ => ?_) <;> conv => whnf))
        all_goals (first | (exfalso; omega) | contradiction | skip)
        exact retIB hM
  · have hM := dtM_f hC
    cases h1 : smOk xs zs with
    | false =>
      conv => whnf
      repeat' (first
        | (refine aIf_t ?_; conv => whnf)
        | (refine aIf_f ?_; conv => whnf)
        | (refine load_same ?_; conv => whnf)
        | (refine And.intro rfl (And.intro (List.cons_ne_nil _ _) ?_); conv => whnf)
        | (refine And.intro (Nat.le_of_ble_eq_true rfl) ?_; conv => whnf)
        | (refine callG_t ?_; conv => whnf)
        | (refine append_same ?_; conv => whnf)
        | (refine dotOk_call trivial ?_; conv => whnf)
        | (refine takeN_in ?_; conv => whnf)
        | (refine And.intro (pureL_ints _ _) ?_; conv => whnf)
        | (refine And.intro (by kernel_rfl) ?_; conv => whnf)
        | (refine aIf_ff (by assumption) ?_; conv => whnf)
        | refine aIf_eqf ?_
        | refine aIf_not ?_)
      all_goals (first | (exfalso; omega) | contradiction | skip)
      all_goals exact retIB hM
    | true =>
      cases h2 : smOk ps qs with
      | false =>
        conv => whnf
        repeat' (first
          | (refine aIf_t ?_; conv => whnf)
          | (refine aIf_f ?_; conv => whnf)
          | (refine load_same ?_; conv => whnf)
          | (refine And.intro rfl (And.intro (List.cons_ne_nil _ _) ?_); conv => whnf)
          | (refine And.intro (Nat.le_of_ble_eq_true rfl) ?_; conv => whnf)
          | (refine callG_t ?_; conv => whnf)
          | (refine append_same ?_; conv => whnf)
          | (refine dotOk_call trivial ?_; conv => whnf)
          | (refine takeN_in ?_; conv => whnf)
          | (refine And.intro (pureL_ints _ _) ?_; conv => whnf)
          | (refine And.intro (by kernel_rfl) ?_; conv => whnf)
          | (refine aIf_tt (by assumption) ?_; conv => whnf)
          | (refine aIf_ff (by assumption) ?_; conv => whnf)
          | refine aIf_eqf ?_
          | refine aIf_not ?_)
        all_goals (first | (exfalso; omega) | contradiction | skip)
        all_goals exact retIB hM
      | true =>
        have h3 : ¬ xs = ps := fun e => hC ⟨h1, h2, e⟩
        conv => whnf
        repeat' (first
          | (refine aIf_t ?_; conv => whnf)
          | (refine aIf_f ?_; conv => whnf)
          | (refine fun (_ : _ ≤ maxLen) => ?_; conv => whnf)
          | (refine aGet_in rfl ?_; conv => whnf)
          | (refine load_same ?_; conv => whnf)
          | (refine And.intro rfl (And.intro (List.cons_ne_nil _ _) ?_); conv => whnf)
          | (refine And.intro (Nat.le_of_ble_eq_true rfl) ?_; conv => whnf)
          | (refine callG_t ?_; conv => whnf)
          | (refine append_same ?_; conv => whnf)
          | (refine dotOk_call trivial ?_; conv => whnf)
          | (refine takeN_in ?_; conv => whnf)
          | (refine And.intro (pureL_ints _ _) ?_; conv => whnf)
          | (refine sameNums_call ?_; conv => whnf)
          | (refine And.intro (by kernel_rfl) ?_; conv => whnf)
          | (refine aIf_tt (by assumption) ?_; conv => whnf)
          | refine aIf_eqf ?_
          | refine aIf_not ?_
          | (refine aIf_dec (fun _ => ?_) (fun _ => ?_) <;> conv => whnf))
        all_goals (first | (exfalso; omega) | contradiction | skip)
        all_goals exact retIB hM
theorem sDotOf_call {c d e f : Nat} {xs zs ps qs : List Int} {env : List AV} {rows : List Row} {ctr low : Nat} {k : AV → St → Prop} (hk : k (.tup [.int .i64 (dtM xs zs ps qs).1, .bool (dtM xs zs ps qs).2]) ⟨env, rows, ctr + 1, low⟩) :
    CallB Try.prog 17 ⟨env, rows, ctr, low⟩ [.agg [.sl c xs.length (xs.map (.int .i64)), .sl d zs.length (zs.map (.int .i64))], .agg [.sl e ps.length (ps.map (.int .i64)), .sl f qs.length (qs.map (.int .i64))]] k := callIB_in sDotOf_sound (c, xs, d, zs, e, ps, f, qs) trivial hk
theorem iDotOf_call {c d e f : Nat} {xs zs ps qs : List Int} {env : List AV} {rows : List Row} {ctr low : Nat} {k : AV → St → Prop} (hk : k (.tup [.int .i64 (dtM xs zs ps qs).1, .bool (dtM xs zs ps qs).2]) ⟨env, rows, ctr + 1, low⟩) :
    CallB Try.prog 19 ⟨env, rows, ctr, low⟩ [.agg [.sl c xs.length (xs.map (.int .i64)), .sl d zs.length (zs.map (.int .i64))], .agg [.sl e ps.length (ps.map (.int .i64)), .sl f qs.length (qs.map (.int .i64))]] k := callIB_in iDotOf_sound (c, xs, d, zs, e, ps, f, qs) trivial hk
end Go.Proofs.Ytjmdhfjemaoebaa

/- Chapter 7: UnspreadOf of both sides. -/
namespace Go.Proofs.Ytjmdhfjemaoebaa
set_option maxRecDepth 20000
open Go.RowKit Go.Am
set_option linter.unusedSimpArgs false
theorem zsOf_length {xs : List Int} (hs : shapeOk xs = true) : (zsOf xs).length = (cntTo xs xs.length).toNat := by
  have he : countOf xs = cntTo xs xs.length := if_pos hs
  simp [zsOf, he]
theorem iota_ten {xs : List Int} (hs : shapeOk xs = true) : tensorOk xs (iotaL (cntTo xs xs.length).toNat) = true := by
  have hc := cnt64 hs (Nat.le_refl _)
  refine tensorOk_t hs (by rw [iotaL_length]; omega) fun j hj => ?_
  rw [iotaL_length] at hj
  rw [iotaL_getD hj]; omega
def suP (zs is : List Int) (n : Int) : Prop := (0 ≤ n ∧ n ≤ 64) ∧ is.length ≤ zs.length ∧ is.length ≤ 64 ∧ ∀ j, j < is.length → 0 ≤ is.getD j 0 ∧ is.getD j 0 < n
theorem suP_sp {xs zs ys : List Int} (hl : (zs.length : Int) = cntTo ys ys.length) (h : jOk xs ys = true) (h' : jL xs ys = ys) (hs : shapeOk xs = true) : suP zs (spI xs ys) (countOf xs) := by
  have he : countOf xs = cntTo xs xs.length := if_pos hs
  have hc := cnt64 hs (Nat.le_refl _)
  have b1 := (sp_facts h h').1
  have hc2 := cnt64 b1 (Nat.le_refl _)
  rw [he]
  refine ⟨by omega, by rw [spI_length]; omega, by rw [spI_length]; omega, fun j hj => ?_⟩
  rw [spI_length] at hj
  obtain ⟨e, h1, h2⟩ := spI_getD h h' hj
  rw [e]; exact ⟨h1, h2⟩
theorem spI_shape {xs ys : List Int} (h : jOk xs ys = true) (h' : jL xs ys = ys) : shapeOk xs = true := by
  have b1 := (sp_facts h h').1
  have hc := cnt64 b1 (Nat.le_refl _)
  exact (sp_ok (sp_all h h' (i := 0) (by omega))).1
attribute [local irreducible] aPlan aGet aIf aLoop aCall RetB NextB CallB CallG aCut aSet aAppend
set_option maxHeartbeats 4000000 in
theorem sumsAt_sound : Sound Try.prog 110 (fnL (ι := Nat × List Int × Nat × List Int × Int) 3 (fun | (c, zs, d, is, n) => [.sl c zs.length (zs.map (.int .i64)), .sl d is.length (is.map (.int .i64)), .int .i64 n]) (fun | (_, zs, _, is, n) => suP zs is n) (fun | (_, zs, _, is, n) => suL zs is n.toNat)) := by
  refine sound_of Try.func110 rfl (enters_of Try.func110 (by kernel_rfl) (by kernel_rfl)) ?_
  rintro ⟨c, zs, d, is, n⟩ hpre
  obtain ⟨hn, hl, hl2, hin⟩ : suP zs is n := hpre
  have hmax : maxLen = 9223372036854775807 := rfl
  conv => whnf
  repeat' (first
    | (refine plan_in (id := 5) [0, 1, 2, 3, 4, 5, 6, 7, 8, 9, 10] (by kernel_rfl) (by kernel_rfl) ?_; conv => whnf)
    | (refine fun (_ : _ ≤ maxLen) => ?_; conv => whnf)
    | (refine And.intro (And.intro (Int.le_refl _) (And.intro (by kernel_rfl) (And.intro rfl (by kernel_rfl)))) (And.intro (And.intro (by omega) (And.intro (bytes_le (b := 8) rfl (by omega)) (by omega))) ?_); conv => whnf)
    | (refine append_same ?_; conv => whnf))
  all_goals (first | (exfalso; omega) | skip)
  refine loop_u (ι := Nat) [true, false, false, false, false, false, false, true, false, false, false, false, true, true, true, false, false, false, false, false, false, false, false, false, false, false, false, false, false, false, false] (fun k => [(14, .int .i64 k)]) (fun k => [(1, (suT zs is n.toNat k).map (.int .i64))]) (fun k => k ≤ is.length) (fun k => is.length - k) (0) (Nat.zero_le _) ?_ ?_
  · conv => whnf
    repeat' (first
      | exact trivial
      | exact rfl
      | exact pureL_ints _ _
      | exact Or.inl (And.intro rfl rfl)
      | exact le_ints (rep_ints _ _)
      | refine And.intro ?_ ?_
      | exact Nat.le_of_ble_eq_true rfl)
  · intro k hk
    have hk : k ≤ is.length := hk
    have hsl := suT_length zs is n.toNat k
    by_cases hlt : k < is.length
    · have hi := hin k hlt
      conv => whnf
      repeat' (first
        | (refine plan_in (id := 5) [0, 1, 2, 3, 4, 5, 6, 7, 8, 9, 10] (by kernel_rfl) (by kernel_rfl) ?_; conv => whnf)
        | (refine get_int0 (by omega) ?_; conv => whnf)
        | (refine get_nat (by omega) ?_; conv => whnf)
        | (refine And.intro (by omega) ?_; conv => whnf)
        | (refine append_same ?_; conv => whnf)
        | (refine And.intro rfl (And.intro rfl (And.intro (by first | omega | (rw [List.length_map]; omega)) ?_)); conv => whnf)
        | (refine set_int ?_ (by omega); conv => whnf)
        | (refine aIf_dec (fun _ => ?_) (fun _ => ?_) <;> conv => whnf))
      all_goals (first | (exfalso; omega) | skip)
      refine next_u (k + 1) (show is.length - (k + 1) < is.length - k by omega) (by exact (by omega : k + 1 ≤ is.length)) ?_
      conv => whnf
      repeat' (first
        | exact trivial
        | exact rfl
        | exact pureL_ints _ _
        | exact Or.inl (And.intro rfl rfl)
        | exact le_ints rfl
        | refine And.intro ?_ ?_
        | exact Nat.le_of_ble_eq_true rfl
        | exact int_eq (by rw [IntWalk.i64_in _ (by omega)] <;> omega))
    · have he : k = is.length := by omega
      subst he
      conv => whnf
      repeat' (first
        | (refine plan_in (id := 5) [0, 1, 2, 3, 4, 5, 6, 7, 8, 9, 10] (by kernel_rfl) (by kernel_rfl) ?_; conv => whnf)
        | (refine get_nat0 (by omega) ?_; conv => whnf)
        | (refine get_nat (by omega) ?_; conv => whnf)
        | (refine And.intro (by omega) ?_; conv => whnf)
        | (refine append_same ?_; conv => whnf)
        | (refine set_nat ?_ (by omega); conv => whnf)
        | (refine aIf_dec (fun _ => ?_) (fun _ => ?_) <;> conv => whnf))
      all_goals (first | (exfalso; omega) | skip)
      exact retL rfl rfl rfl (suL_length _ _ _).symm
theorem sumsAt_call {c d : Nat} {zs is : List Int} {n : Int} {env : List AV} {rows : List Row} {ctr low : Nat} {k : AV → St → Prop} (hpre : suP zs is n) (h : k (.ref rows.length ctr 0 (suL zs is n.toNat).length) ⟨env, rows ++ [⟨ctr, 3, 1, (suL zs is n.toNat).map (.int .i64)⟩], ctr + 1, low⟩) :
    CallB Try.prog 110 ⟨env, rows, ctr, low⟩ [.sl c zs.length (zs.map (.int .i64)), .sl d is.length (is.map (.int .i64)), .int .i64 n] k := callL_in sumsAt_sound (c, zs, d, is, n) hpre h
def iotP (n k : Nat) : List Int := (List.range n).map fun j : Nat => if j < k then (j : Int) else 0
theorem iotP_length (n k : Nat) : (iotP n k).length = n := by simp [iotP]
theorem iotP_getD {n k j : Nat} (h : j < n) : (iotP n k).getD j 0 = if j < k then (j : Int) else 0 := range_getD h
theorem iotP_0 (xs : List Int) (hs : shapeOk xs = true) : zsOf xs = iotP (cntTo xs xs.length).toNat 0 := getD_ext (by rw [zsOf_length hs, iotP_length]) fun j hj => by
  rw [iotP_length] at hj
  have hl := zsOf_length hs
  rw [iotP_getD hj, if_neg (Nat.not_lt_zero j)]
  unfold zsOf
  unfold zsOf at hl
  simp only [List.length_replicate] at hl
  simp [List.getD, hl, hj]
theorem iotP_next {n k : Nat} (h : k < n) : (iotP n k).set k (k : Int) = iotP n (k + 1) := getD_ext (by simp [iotP_length]) fun j hj => by
  rw [iotP_length] at hj
  rw [getD_set (by rw [iotP_length]; exact h), iotP_getD hj, iotP_getD hj]
  by_cases e : k = j
  · subst e; rw [if_pos rfl, if_pos (by omega)]
  · rw [if_neg e]
    by_cases h1 : j < k
    · rw [if_pos h1, if_pos (by omega)]
    · rw [if_neg h1, if_neg (by omega)]
theorem iotP_n (n : Nat) : iotP n n = iotaL n := getD_ext (by rw [iotP_length, iotaL_length]) fun j hj => by
  rw [iotaL_length] at hj
  rw [iotP_getD hj, iotaL_getD hj, if_pos hj]
set_option maxHeartbeats 4000000 in
theorem indicesOf_sound : Sound Try.prog 109 (fnT (ι := Nat × List Int) 3 (fun | (c, xs) => [.sl c xs.length (xs.map (.int .i64))]) (fun | (_, xs) => shapeOk xs = true) (fun | (_, xs) => xs) (fun | (_, xs) => iotaL (cntTo xs xs.length).toNat)) := by
  refine sound_of Try.func109 rfl (enters_of Try.func109 (by kernel_rfl) (by kernel_rfl)) ?_
  rintro ⟨c, xs⟩ hpre
  have hs : shapeOk xs = true := hpre
  have h3 := ((shapeOk_iff _).1 hs).1
  have hc := cnt64 hs (Nat.le_refl _)
  have hz := zsOf_length hs
  have hmax : maxLen = 9223372036854775807 := rfl
  conv => whnf
  repeat' (first
    | (refine fun (_ : _ ≤ maxLen) => ?_; conv => whnf)
    | (refine aGet_in rfl ?_; conv => whnf)
    | (refine And.intro (Nat.le_of_ble_eq_true rfl) ?_; conv => whnf)
    | (refine callG_t ?_; conv => whnf)
    | (refine append_same ?_; conv => whnf)
    | (refine noughtsOf_call (by assumption) ?_; conv => whnf)
    | (refine And.intro (pureL_ints _ _) ?_; conv => whnf)
    | (refine set_force ?_; conv => whnf)
    | (refine And.intro (by kernel_rfl) ?_; conv => whnf))
  all_goals (first | (exfalso; omega) | skip)
  refine loop_u (ι := Nat) [false, false, true, true, false, false, false, false, false, true, true, false, false, false, false, false, false, false, false, false] (fun k => [(9, .int .i64 ((cntTo xs xs.length).toNat : Nat)), (10, .int .i64 k)]) (fun k => [(4, (iotP (cntTo xs xs.length).toNat k).map (.int .i64))]) (fun k => k ≤ (cntTo xs xs.length).toNat) (fun k => (cntTo xs xs.length).toNat - k) (0) (Nat.zero_le _) ?_ ?_
  · conv => whnf
    repeat' (first
      | exact trivial
      | exact rfl
      | exact Or.inl (And.intro rfl rfl)
      | exact le_ints rfl
      | refine le_ints ?_
      | refine Or.inr ?_
      | refine And.intro ?_ ?_
      | exact Nat.le_of_ble_eq_true rfl
      | exact int_eq (by omega))
    all_goals exact congrArg (List.map (AV.int .i64)) (iotP_0 xs hs)
  · intro k hk
    have hk : k ≤ (cntTo xs xs.length).toNat := hk
    have hsl := iotP_length (cntTo xs xs.length).toNat k
    by_cases hlt : k < (cntTo xs xs.length).toNat
    · have hn := iotP_next hlt
      conv => whnf
      repeat' (first
        | (refine aGet_in rfl ?_; conv => whnf)
        | (refine And.intro (by omega) ?_; conv => whnf)
        | (refine load_same ?_; conv => whnf)
        | (refine append_same ?_; conv => whnf)
        | (refine takeN_in ?_; conv => whnf)
        | (refine And.intro rfl (And.intro rfl (And.intro (by first | omega | (rw [List.length_map]; omega)) ?_)); conv => whnf)
        | (refine set_nat ?_ (by omega); conv => whnf)
        | (refine set_force ?_; conv => whnf)
        | (refine aIf_dec (fun _ => ?_) (fun _ => ?_) <;> conv => whnf))
      all_goals (first | (exfalso; omega) | skip)
      refine next_u (k + 1) (show (cntTo xs xs.length).toNat - (k + 1) < (cntTo xs xs.length).toNat - k by omega) (by exact (by omega : k + 1 ≤ (cntTo xs xs.length).toNat)) ?_
      conv => whnf
      repeat' (first
        | exact trivial
        | exact rfl
        | exact Or.inl (And.intro rfl rfl)
        | exact le_ints rfl
        | refine le_ints ?_
        | refine Or.inr ?_
        | refine And.intro ?_ ?_
        | exact Nat.le_of_ble_eq_true rfl
        | exact int_eq (by rw [IntWalk.i64_in _ (by omega)] <;> omega))
      all_goals exact congrArg (List.map (AV.int .i64)) hn
    · have he : k = (cntTo xs xs.length).toNat := by omega
      conv => whnf
      repeat' (first
        | (refine aGet_in rfl ?_; conv => whnf)
        | (refine And.intro (by omega) ?_; conv => whnf)
        | (refine load_same ?_; conv => whnf)
        | (refine And.intro (Nat.le_of_ble_eq_true rfl) ?_; conv => whnf)
        | (refine append_same ?_; conv => whnf)
        | (refine takeN_in ?_; conv => whnf)
        | (refine set_nat ?_ (by omega); conv => whnf)
        | (refine set_force ?_; conv => whnf)
        | (refine And.intro (by kernel_rfl) ?_; conv => whnf)
        | (refine aIf_dec (fun _ => ?_) (fun _ => ?_) <;> conv => whnf))
      all_goals (first | (exfalso; omega) | skip)
      subst he
      exact retTc (by decide) rfl rfl rfl rfl (by rw [hsl]; exact hz) rfl (iotP_n _)
theorem indicesOf_call {c : Nat} {xs : List Int} {env : List AV} {rows : List Row} {ctr low : Nat} {k : AV → St → Prop} (hpre : shapeOk xs = true)
    (hk : k (.agg [.ref rows.length ctr 0 xs.length, .ref (rows.length + 1) ctr 0 (iotaL (cntTo xs xs.length).toNat).length]) ⟨env, rows ++ [⟨ctr, 3, 1, xs.map (.int .i64)⟩, ⟨ctr, 3, 1, (iotaL (cntTo xs xs.length).toNat).map (.int .i64)⟩], ctr + 1, low⟩) :
    CallB Try.prog 109 ⟨env, rows, ctr, low⟩ [.sl c xs.length (xs.map (.int .i64))] k := callT_in indicesOf_sound (c, xs) hpre hk
/-- What is spread over another shape, and numbers of that one. -/
structure UsP (zs xs ys : List Int) : Prop where
  l : (zs.length : Int) = cntTo ys ys.length
  j1 : jOk xs ys = true
  j2 : jL xs ys = ys
set_option maxHeartbeats 4000000 in
theorem unspreadSums_sound : Sound Try.prog 72 (fnL (ι := Nat × List Int × Nat × List Int × Nat × List Int) 3 (fun | (c, zs, d, ys, e, xs) => [.sl c zs.length (zs.map (.int .i64)), .sl d ys.length (ys.map (.int .i64)), .sl e xs.length (xs.map (.int .i64))]) (fun | (_, zs, _, ys, _, xs) => UsP zs xs ys) (fun | (_, zs, _, ys, _, xs) => unL zs xs ys)) := by
  refine sound_of Try.func72 rfl (enters_of Try.func72 (by kernel_rfl) (by kernel_rfl)) ?_
  rintro ⟨c, zs, d, ys, e, xs⟩ hpre
  obtain ⟨hl, j1, j2⟩ : UsP zs xs ys := hpre
  have hmax : maxLen = 9223372036854775807 := rfl
  have hs := spI_shape j1 j2
  have b1 := (sp_facts j1 j2).1
  have h3 := ((shapeOk_iff _).1 b1).1
  have ht := iota_ten hs
  have z1 := sp_zero' j1 j2
  have hS : spM xs (iotaL (cntTo xs xs.length).toNat) ys = (ys, spI xs ys, true) := spM_t ht (by omega)
  have hS2 : (spM xs (iotaL (cntTo xs xs.length).toNat) ys).2.1 = spI xs ys := by rw [hS]
  have hsu : suP zs (spM xs (iotaL (cntTo xs xs.length).toNat) ys).2.1 (countOf xs) := by rw [hS2]; exact suP_sp hl j1 j2 hs
  have hlen := (spM_len xs (iotaL (cntTo xs xs.length).toNat) ys).2
  have hco : (countOf xs).toNat = (cntTo xs xs.length).toNat := by
    have he : countOf xs = cntTo xs xs.length := if_pos hs
    rw [he]
  have hM : suL zs (spM xs (iotaL (cntTo xs xs.length).toNat) ys).2.1 (countOf xs).toNat = unL zs xs ys := by rw [hS2, hco]; rfl
  conv => whnf
  repeat' (first
    | (refine plan_in (id := 2) [0, 1, 2, 3, 4, 5, 6] (by kernel_rfl) (by kernel_rfl) ?_; conv => whnf)
    | (refine aGet_in rfl ?_; conv => whnf)
    | (refine And.intro (Nat.le_of_ble_eq_true rfl) ?_; conv => whnf)
    | (refine callG_t ?_; conv => whnf)
    | (refine iSpreadOf_call (by omega) ?_; conv => whnf)
    | (refine append_same ?_; conv => whnf)
    | (refine sumsAt_call (by assumption) ?_; conv => whnf)
    | (refine indicesOf_call (by assumption) ?_; conv => whnf)
    | (refine And.intro (pureL_ints _ _) ?_; conv => whnf)
    | (refine cut_ints ?_; conv => whnf)
    | (refine iCountOf_call ?_; conv => whnf)
    | (refine set_force ?_; conv => whnf)
    | (refine And.intro (by kernel_rfl) ?_; conv => whnf))
  all_goals (first | (exfalso; omega) | skip)
  all_goals exact retLM7 hM.symm rfl rfl rfl rfl
theorem unspreadSums_call {c d e : Nat} {zs xs ys : List Int} {env : List AV} {rows : List Row} {ctr low : Nat} {k : AV → St → Prop} (hpre : UsP zs xs ys) (h : k (.ref rows.length ctr 0 (unL zs xs ys).length) ⟨env, rows ++ [⟨ctr, 3, 1, (unL zs xs ys).map (.int .i64)⟩], ctr + 1, low⟩) :
    CallB Try.prog 72 ⟨env, rows, ctr, low⟩ [.sl c zs.length (zs.map (.int .i64)), .sl d ys.length (ys.map (.int .i64)), .sl e xs.length (xs.map (.int .i64))] k := callL_in unspreadSums_sound (c, zs, d, ys, e, xs) hpre h
theorem unC_facts {xs zs ys : List Int} (h : unC xs zs ys) : UsP zs ys xs ∧ shapeOk ys = true ∧ ys.length ≤ 3 ∧ (unL zs ys xs).length ≤ 64 := by
  obtain ⟨j1, j2⟩ := sp_zero h.2
  have hs := spI_shape j1 j2
  have hc := cnt64 hs (Nat.le_refl _)
  exact ⟨⟨((tensorOk_iff _ _).1 h.1).2.1, j1, j2⟩, hs, ((shapeOk_iff _).1 hs).1, by rw [unL_length]; omega⟩
def sUnspread : CSpec := fnTB (ι := Nat × List Int × Nat × List Int × Nat × List Int) 3 (fun | (c, xs, d, zs, e, ys) => [.agg [.sl c xs.length (xs.map (.int .i64)), .sl d zs.length (zs.map (.int .i64))], .sl e ys.length (ys.map (.int .i64))]) (fun | (_, _, _, _, _, ys) => ys.length ≤ 1048576) (fun | (_, xs, _, zs, _, ys) => unM xs zs ys)
set_option maxHeartbeats 4000000 in
theorem iUnspreadOf_sound : Sound Try.prog 23 sUnspread := by
  refine sound_of Try.func23 rfl (enters_of Try.func23 (by kernel_rfl) (by kernel_rfl)) ?_
  rintro ⟨c, xs, d, zs, e, ys⟩ hpre
  have hpre : ys.length ≤ 1048576 := hpre
  by_cases hC : unC xs zs ys
  · obtain ⟨hU, hs, h3, hl⟩ := unC_facts hC
    have hM := unM_t hC
    obtain ⟨hT, hz⟩ := hC
    have hx := tensor_len hT
    conv => whnf
    repeat' (first
      | (refine plan_inF [70] (id := 3) [0, 2, 3, 4, 5, 6, 1, 7, 8, 9, 10, 11, 12] (by kernel_rfl) (by kernel_rfl) ?_; conv => whnf)
      | (refine aIf_t ?_; conv => whnf)
      | (refine aIf_f ?_; conv => whnf)
      | (refine aGet_in rfl ?_; conv => whnf)
      | (refine And.intro (by omega) ?_; conv => whnf)
      | (refine load_same ?_; conv => whnf)
      | (refine And.intro rfl (And.intro (List.cons_ne_nil _ _) ?_); conv => whnf)
      | (refine And.intro (Nat.le_of_ble_eq_true rfl) ?_; conv => whnf)
      | (refine orNone_call _ _ rfl rfl (by decide) (by first | rfl | omega) (by first | rfl | omega) (fun _ => ?_) (fun _ => ?_) <;> conv => whnf)
      | (refine callG_t ?_; conv => whnf)
      | (refine copyNums_call (by omega) ?_; conv => whnf)
      | (refine iTensorOk_call ?_; conv => whnf)
      | (refine append_same ?_; conv => whnf)
      | (refine unspreadSums_call (by assumption) ?_; conv => whnf)
      | (refine takeN_in ?_; conv => whnf)
      | (refine And.intro (pureL_ints _ _) ?_; conv => whnf)
      | (refine iSpreadIndex_call (by omega) ?_; conv => whnf)
      | (refine set_force ?_; conv => whnf)
      | (refine And.intro (by kernel_rfl) ?_; conv => whnf)
      | (refine aIf_tt (by assumption) ?_; conv => whnf)
      | refine aIf_eqf ?_
      | refine aIf_not ?_
      | (refine aIf_dec (fun _ => ?_) (fun _ => ?_) <;> conv => whnf))
    all_goals (first | (exfalso; omega) | skip)
    all_goals (first | (refine retTB (hM := hM.trans (told_t (by assumption))) ?_ ?_ ?_ ?_ ?_ <;> first | exact rfl | decide | (simp; done)) | (refine retTB (hM := hM.trans (told_f (by assumption))) ?_ ?_ ?_ ?_ ?_ <;> first | exact rfl | decide | (simp; done)))
  · have hM := unM_f hC
    cases hT : tensorOk xs zs with
    | false =>
      conv => whnf
      repeat' (first
        | (refine plan_inF [70] (id := 3) [0, 2, 3, 4, 5, 6, 1, 7, 8, 9, 10, 11, 12] (by kernel_rfl) (by kernel_rfl) ?_; conv => whnf)
        | (refine aIf_t ?_; conv => whnf)
        | (refine aIf_f ?_; conv => whnf)
        | (refine load_same ?_; conv => whnf)
        | (refine And.intro rfl (And.intro (List.cons_ne_nil _ _) ?_); conv => whnf)
        | (refine And.intro (Nat.le_of_ble_eq_true rfl) ?_; conv => whnf)
        | (refine callG_t ?_; conv => whnf)
        | (refine iTensorOk_call ?_; conv => whnf)
        | (refine append_same ?_; conv => whnf)
        | (refine takeN_in ?_; conv => whnf)
        | (refine And.intro (pureL_ints _ _) ?_; conv => whnf)
        | (refine set_force ?_; conv => whnf)
        | (refine And.intro (by kernel_rfl) ?_; conv => whnf)
        | (refine aIf_ff (by assumption) ?_; conv => whnf)
        | refine aIf_eqf ?_
        | refine aIf_not ?_)
      all_goals (first | (exfalso; omega) | skip)
      all_goals (refine retTB (hM := hM) ?_ ?_ ?_ ?_ ?_ <;> first | exact rfl | decide | (simp; done))
    | true =>
      have hz : spread ys xs 0 < 0 := by
        refine Classical.byContradiction fun h => hC ⟨hT, h⟩
      have hx := tensor_len hT
      conv => whnf
      repeat' (first
        | (refine plan_inF [70] (id := 3) [0, 2, 3, 4, 5, 6, 1, 7, 8, 9, 10, 11, 12] (by kernel_rfl) (by kernel_rfl) ?_; conv => whnf)
        | (refine aIf_t ?_; conv => whnf)
        | (refine aIf_f ?_; conv => whnf)
        | (refine aGet_in rfl ?_; conv => whnf)
        | (refine And.intro (by omega) ?_; conv => whnf)
        | (refine load_same ?_; conv => whnf)
        | (refine And.intro rfl (And.intro (List.cons_ne_nil _ _) ?_); conv => whnf)
        | (refine And.intro (Nat.le_of_ble_eq_true rfl) ?_; conv => whnf)
        | (refine callG_t ?_; conv => whnf)
        | (refine copyNums_call (by omega) ?_; conv => whnf)
        | (refine iTensorOk_call ?_; conv => whnf)
        | (refine append_same ?_; conv => whnf)
        | (refine takeN_in ?_; conv => whnf)
        | (refine And.intro (pureL_ints _ _) ?_; conv => whnf)
        | (refine iSpreadIndex_call (by omega) ?_; conv => whnf)
        | (refine set_force ?_; conv => whnf)
        | (refine And.intro (by kernel_rfl) ?_; conv => whnf)
        | (refine aIf_tt (by assumption) ?_; conv => whnf)
        | refine aIf_eqf ?_
        | refine aIf_not ?_
        | (refine aIf_dec (fun _ => ?_) (fun _ => ?_) <;> conv => whnf))
      all_goals (first | (exfalso; omega) | skip)
      all_goals (refine retTB (hM := hM) ?_ ?_ ?_ ?_ ?_ <;> first | exact rfl | decide | (simp; done))
theorem iUnspreadOf_call {c d e : Nat} {xs zs ys : List Int} {env : List AV} {rows : List Row} {ctr low : Nat} {k : AV → St → Prop} (hpre : ys.length ≤ 1048576)
    (hk : k (.tup [.agg [.ref rows.length ctr 0 (unM xs zs ys).1.length, .ref (rows.length + 1) ctr 0 (unM xs zs ys).2.1.length], .bool (unM xs zs ys).2.2]) ⟨env, rows ++ [⟨ctr, 3, 1, (unM xs zs ys).1.map (.int .i64)⟩, ⟨ctr, 3, 1, (unM xs zs ys).2.1.map (.int .i64)⟩], ctr + 1, low⟩) :
    CallB Try.prog 23 ⟨env, rows, ctr, low⟩ [.agg [.sl c xs.length (xs.map (.int .i64)), .sl d zs.length (zs.map (.int .i64))], .sl e ys.length (ys.map (.int .i64))] k := callTB_in iUnspreadOf_sound (c, xs, d, zs, e, ys) hpre hk
end Go.Proofs.Ytjmdhfjemaoebaa
