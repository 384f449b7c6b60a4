import Derived.Test.YtmgggbgejdkamaaM0x18
import Derived.Test.YtmgggbgejdkamaaM0x19
import Derived.Test.YtmgggbgejdkamaaM0x21
import Derived.Test.YtmgggbgejdkamaaM0x13
/- Chapter 4: the tensors of an index sum. -/
namespace Go.Proofs.Ytmgggbgejdkamaa
set_option maxRecDepth 20000
open Go.RowKit Go.Am
set_option linter.unusedSimpArgs false
attribute [local irreducible] aPlan aGet aIf aLoop aCall RetB NextB CallB CallG aCut aSet aAppend
/-! What counters show. -/
theorem quo_in {zs : List Int} {i : Int} (hz : ∀ j, j < zs.length → 1 ≤ zs.getD j 0 ∧ zs.getD j 0 ≤ 4) (hi : 0 ≤ i ∧ i ≤ 1000) : ∀ m, m ≤ zs.length → 0 ≤ quoT zs i m ∧ quoT zs i m ≤ 1000
  | 0, _ => hi
  | m + 1, hm => by
    obtain ⟨h0, h1⟩ := quo_in hz hi m (by omega)
    have hzz := hz (zs.length - 1 - m) (by omega)
    have e : quoT zs i (m + 1) = IntKind.i64.wrap ((quoT zs i m).tdiv (zs.getD (zs.length - 1 - m) 0)) := rfl
    rw [e, Int.tdiv_eq_ediv_of_nonneg h0]
    have a1 : quoT zs i m / zs.getD (zs.length - 1 - m) 0 ≤ quoT zs i m := Int.ediv_le_self _ h0
    have a2 : 0 ≤ quoT zs i m / zs.getD (zs.length - 1 - m) 0 := Int.ediv_nonneg h0 (by omega)
    rw [IntWalk.i64_in _ (by omega)]
    omega
theorem plc_in {zs : List Int} {i : Int} (hz : ∀ j, j < zs.length → 1 ≤ zs.getD j 0 ∧ zs.getD j 0 ≤ 4) (hi : 0 ≤ i ∧ i ≤ 1000) {j : Nat} (hj : j < zs.length) : 0 ≤ (places zs i).getD j 0 ∧ (places zs i).getD j 0 < zs.getD j 0 := by
  have h0 := (quo_in hz hi (zs.length - 1 - j) (by omega)).1
  have hzz := hz j hj
  rw [places_getD hj, Int.tmod_eq_emod_of_nonneg h0]
  exact ⟨Int.emod_nonneg _ (by omega), Int.emod_lt_of_pos _ (by omega)⟩
theorem cnt3 {zs : List Int} (h5 : zs.length ≤ 5) (hz : ∀ j, j < zs.length → 1 ≤ zs.getD j 0 ∧ zs.getD j 0 ≤ 3) : 1 ≤ cntTo zs zs.length ∧ cntTo zs zs.length ≤ 243 := by
  have key : ∀ k, k ≤ zs.length → 1 ≤ cntTo zs k ∧ cntTo zs k ≤ 3 ^ k := by
    intro k
    induction k with
    | zero => intro _; exact ⟨Int.le_refl _, Int.le_refl _⟩
    | succ k ih =>
      intro hk
      obtain ⟨h1, h2⟩ := ih (by omega)
      obtain ⟨h3, h4⟩ := hz k (by omega)
      have hp : (3 : Int) ^ k ≤ 81 := by
        have : k ≤ 4 := by omega
        rcases k with _ | _ | _ | _ | _ | k
        · decide
        · decide
        · decide
        · decide
        · decide
        · omega
      have a1 : 1 * 1 ≤ cntTo zs k * zs.getD k 0 := Int.mul_le_mul h1 h3 (by decide) (by omega)
      have a2 : cntTo zs k * zs.getD k 0 ≤ 3 ^ k * 3 := Int.mul_le_mul h2 h4 (by omega) (by omega)
      have a3 : cntTo zs (k + 1) = cntTo zs k * zs.getD k 0 := by
        show IntKind.i64.wrap _ = _
        exact IntWalk.i64_in _ (by omega)
      rw [a3, Int.pow_succ]
      exact ⟨by omega, a2⟩
  have h := key zs.length (Nat.le_refl _)
  have hp : (3 : Int) ^ zs.length ≤ 243 := by
    generalize zs.length = n at h5
    rcases n with _ | _ | _ | _ | _ | _ | n
    · decide
    · decide
    · decide
    · decide
    · decide
    · decide
    · omega
  omega
/-- What letters pick out of sizes is a shape, and what they pick out of counters a place of it. -/
structure PkFacts (zs ls : List Int) (i : Int) : Prop where
  sh : shapeOk (turned zs ls) = true
  pk : placeOk (turned zs ls) (turned (places zs i) ls) = true
  ix : indexAt (turned zs ls) (turned (places zs i) ls) = idxTo (turned zs ls) (turned (places zs i) ls) (turned zs ls).length
  rg : 0 ≤ idxTo (turned zs ls) (turned (places zs i) ls) (turned zs ls).length ∧ idxTo (turned zs ls) (turned (places zs i) ls) (turned zs ls).length < cntTo (turned zs ls) (turned zs ls).length
theorem pk_shape {zs ls : List Int} (hz : ∀ j, j < zs.length → 1 ≤ zs.getD j 0 ∧ zs.getD j 0 ≤ 3) (hl : letP ls zs.length) : shapeOk (turned zs ls) = true := by
  have hin := difP_in hl.2
  refine (shapeOk_iff _).2 ⟨by rw [turned_length]; exact hl.1, fun j hj => ?_⟩
  rw [turned_length] at hj
  have := hin j hj
  have := hz (ls.getD j 0).toNat (by omega)
  rw [turned_getD hj, okSize_iff]; omega
theorem pk_facts {zs ls : List Int} {i : Int} (hz : ∀ j, j < zs.length → 1 ≤ zs.getD j 0 ∧ zs.getD j 0 ≤ 3) (hi : 0 ≤ i ∧ i ≤ 1000) (hl : letP ls zs.length) : PkFacts zs ls i := by
  have hin := difP_in hl.2
  have hs := pk_shape hz hl
  have hp : ∀ j, j < (turned zs ls).length → 0 ≤ (turned (places zs i) ls).getD j 0 ∧ (turned (places zs i) ls).getD j 0 < (turned zs ls).getD j 0 := fun j hj => by
    rw [turned_length] at hj
    have := hin j hj
    rw [turned_getD hj, turned_getD hj]
    exact plc_in (fun j hj => by have := hz j hj; omega) hi (by omega)
  have hpk : placeOk (turned zs ls) (turned (places zs i) ls) = true := (placeOk_iff _ _).2 ⟨hs, by rw [turned_length, turned_length], hp⟩
  exact ⟨hs, hpk, if_pos hpk, idx_range hs hp _ (Nat.le_refl _)⟩

/-! The tensors. -/
def svK (zs : List Int) (fs : List (List Int)) (ts : List T2) (k : Nat) : Prop := tensorOk (ts.getD k ([], [])).1 (ts.getD k ([], [])).2 = true ∧ (ts.getD k ([], [])).1 = turned zs (fs.getD k []) ∧ btw (ts.getD k ([], [])).2 (-1000) 1000 = true
instance (zs : List Int) (fs : List (List Int)) (ts : List T2) (k : Nat) : Decidable (svK zs fs ts k) := by unfold svK; infer_instance
def svP (zs : List Int) (fs : List (List Int)) (o : List Int) (ts : List T2) : Prop := sumP zs fs o ∧ ts.length = fs.length ∧ ∀ k, k < ts.length → svK zs fs ts k
instance (zs : List Int) (fs : List (List Int)) (o : List Int) (ts : List T2) : Decidable (svP zs fs o ts) := by unfold svP; infer_instance
theorem svP_f {zs o : List Int} {fs : List (List Int)} {ts : List T2} (h : ¬ svP zs fs o ts) : AV.bool false = AV.bool (decide (svP zs fs o ts)) := congrArg AV.bool (decide_eq_false h).symm
theorem svP_t {zs o : List Int} {fs : List (List Int)} {ts : List T2} (h : svP zs fs o ts) : AV.bool true = AV.bool (decide (svP zs fs o ts)) := congrArg AV.bool (decide_eq_true h).symm
def sFactorsOk : CSpec := fnS (ι := IS × Nat × List T2) (fun | ((c, zs, d, fs, e, o), g, ts) => [.agg [.sl c zs.length (zs.map (.int .i64)), .sl d fs.length (fs.map (slI d)), .sl e o.length (o.map (.int .i64))], .sl g ts.length (ts.flatMap (tnC g))]) (fun _ => True) (fun | ((_, zs, _, fs, _, o), _, ts) => .bool (decide (svP zs fs o ts)))
set_option maxHeartbeats 4000000 in
theorem factorsOk_sound : Sound Try.prog 80 sFactorsOk := by
  refine sound_of Try.func80 rfl (enters_of Try.func80 (by kernel_rfl) (by kernel_rfl)) ?_
  rintro ⟨⟨c, zs, d, fs, e, o⟩, g, ts⟩ -
  have hmax : maxLen = 9223372036854775807 := rfl
  by_cases h : sumP zs fs o
  · have h4 := h.2.2.1
    by_cases hl : ts.length = fs.length
    · conv => whnf
      repeat' (first
        | (refine aIf_t ?_; conv => whnf)
        | (refine aIf_f ?_; conv => whnf)
        | (refine fun (_ : _ ≤ maxLen) => ?_; conv => whnf)
        | (refine aGet_in rfl ?_; conv => whnf)
        | (refine load_same ?_; conv => whnf)
        | (refine And.intro rfl (And.intro (List.cons_ne_nil _ _) ?_); conv => whnf)
        | (refine And.intro (Nat.le_of_ble_eq_true rfl) ?_; conv => whnf)
        | (refine callG_t ?_; conv => whnf)
        | (refine append_same ?_; conv => whnf)
        | (refine And.intro (pureL_ii _ _) ?_; conv => whnf)
        | (refine iSumOk_call trivial ?_; conv => whnf)
        | (refine takeN_in ?_; conv => whnf)
        | (refine And.intro (pureL_ints _ _) ?_; conv => whnf)
        | (refine And.intro (by kernel_rfl) ?_; conv => whnf)
        | refine aIf_eqf ?_
        | refine aIf_not ?_
        | (refine aIf_dec (fun _ => ?_) (fun _ => ?_) <;> conv => whnf))
      all_goals (first | (exfalso; omega) | contradiction | skip)
      refine loop_u (ι := Nat) [false, false, true, false, false, false, false, false, false, false, false, false, false, false, false, false, false, false, false, false, true, true, true, false, false, false, false, false, false, false, false, false, false, false, false, false, false, false, false, false, false, false, false, false, false, false, false, false, false, false] (fun k => [(22, .int .i64 k)]) (fun _ => []) (fun k => k ≤ ts.length ∧ ∀ j, j < k → svK zs fs ts j) (fun k => ts.length - k) (0) ⟨Nat.zero_le _, fun j hj => absurd hj (Nat.not_lt_zero _)⟩ ?_ ?_
      · conv => whnf
        repeat' (first
          | exact trivial
          | exact rfl
          | exact pureL_ints _ _
          | exact pureL_ii _ _
          | exact pureL_tn _ _
          | refine Or.inr ?_
          | refine And.intro ?_ ?_
          | exact Nat.le_of_ble_eq_true rfl)
      · rintro k ⟨hk, hall⟩
        have hk : k ≤ ts.length := hk
        have hall : ∀ j, j < k → svK zs fs ts j := hall
        by_cases hlt : k < ts.length
        · obtain ⟨e1, e2⟩ := fs_t h (show 0 ≤ (k : Int) ∧ (k : Int) < fs.length by omega)
          rw [Int.toNat_natCast] at e1
          by_cases hT : tensorOk (ts.getD k ([], [])).1 (ts.getD k ([], [])).2 = true
          · by_cases hS : (ts.getD k ([], [])).1 = fsL zs fs o k
            · by_cases hB : btw (ts.getD k ([], [])).2 (-1000) 1000 = true
              · conv => whnf
                repeat' (first
                  | (refine aIf_t ?_; conv => whnf)
                  | (refine aIf_f ?_; conv => whnf)
                  | (refine aGet_in rfl ?_; conv => whnf)
                  | (refine And.intro (by omega) ?_; conv => whnf)
                  | (refine load_same ?_; conv => whnf)
                  | (refine And.intro (Nat.le_of_ble_eq_true rfl) ?_; conv => whnf)
                  | (refine callG_t ?_; conv => whnf)
                  | (refine iTensorOk_call ?_; conv => whnf)
                  | (refine allBetween_call trivial ?_; conv => whnf)
                  | (refine append_same ?_; conv => whnf)
                  | (refine part_tn_n (by omega) ?_; conv => whnf)
                  | (refine And.intro (pureL_ii _ _) ?_; conv => whnf)
                  | (refine iFactorShape_call trivial ?_; conv => whnf)
                  | (refine takeN_in ?_; conv => whnf)
                  | (refine And.intro (pureL_ints _ _) ?_; conv => whnf)
                  | (refine cut_ints ?_; conv => whnf)
                  | (refine sameNums_call ?_; conv => whnf)
                  | (refine set_force ?_; conv => whnf)
                  | (refine And.intro (by kernel_rfl) ?_; conv => whnf)
                  | (refine aIf_tt (by assumption) ?_; conv => whnf)
                  | refine aIf_eqf ?_
                  | refine aIf_not ?_
                  | (refine aIf_dec (fun _ => ?_) (fun _ => ?_) <;> conv => whnf))
                all_goals (first | (exfalso; omega) | contradiction | skip)
                refine next_u (k + 1) (show ts.length - (k + 1) < ts.length - k by omega) ⟨(by omega : k + 1 ≤ ts.length), fun j hj => ?_⟩ ?_
                · rcases Nat.lt_succ_iff_lt_or_eq.1 hj with h | rfl
                  · exact hall j h
                  · exact ⟨hT, by rw [hS, e1], hB⟩
                · conv => whnf
                  repeat' (first
                    | exact trivial
                    | exact rfl
                    | exact pureL_ints _ _
                    | exact pureL_ii _ _
                    | exact pureL_tn _ _
                    | refine Or.inr ?_
                    | refine And.intro ?_ ?_
                    | exact Nat.le_of_ble_eq_true rfl
                    | exact int_eq (by rw [IntWalk.i64_in _ (by omega)] <;> omega))
              · have hB' : btw (ts.getD k ([], [])).2 (-1000) 1000 = false := by simpa using hB
                conv => whnf
                repeat' (first
                  | (refine aIf_t ?_; conv => whnf)
                  | (refine aIf_f ?_; conv => whnf)
                  | (refine aGet_in rfl ?_; conv => whnf)
                  | (refine And.intro (by omega) ?_; conv => whnf)
                  | (refine load_same ?_; conv => whnf)
                  | (refine And.intro (Nat.le_of_ble_eq_true rfl) ?_; conv => whnf)
                  | (refine callG_t ?_; conv => whnf)
                  | (refine iTensorOk_call ?_; conv => whnf)
                  | (refine allBetween_call trivial ?_; conv => whnf)
                  | (refine append_same ?_; conv => whnf)
                  | (refine part_tn_n (by omega) ?_; conv => whnf)
                  | (refine And.intro (pureL_ii _ _) ?_; conv => whnf)
                  | (refine iFactorShape_call trivial ?_; conv => whnf)
                  | (refine takeN_in ?_; conv => whnf)
                  | (refine And.intro (pureL_ints _ _) ?_; conv => whnf)
                  | (refine cut_ints ?_; conv => whnf)
                  | (refine sameNums_call ?_; conv => whnf)
                  | (refine set_force ?_; conv => whnf)
                  | (refine And.intro (by kernel_rfl) ?_; conv => whnf)
                  | (refine aIf_tt (by assumption) ?_; conv => whnf)
                  | (refine aIf_ff (by assumption) ?_; conv => whnf)
                  | refine aIf_eqf ?_
                  | refine aIf_not ?_
                  | (refine aIf_dec (fun _ => ?_) (fun _ => ?_) <;> conv => whnf))
                all_goals (first | (exfalso; omega) | contradiction | skip)
                exact retS rfl (svP_f fun h' => hB (h'.2.2 k hlt).2.2)
            · conv => whnf
              repeat' (first
                | (refine aIf_t ?_; conv => whnf)
                | (refine aIf_f ?_; conv => whnf)
                | (refine aGet_in rfl ?_; conv => whnf)
                | (refine And.intro (by omega) ?_; conv => whnf)
                | (refine load_same ?_; conv => whnf)
                | (refine And.intro (Nat.le_of_ble_eq_true rfl) ?_; conv => whnf)
                | (refine callG_t ?_; conv => whnf)
                | (refine iTensorOk_call ?_; conv => whnf)
                | (refine allBetween_call trivial ?_; conv => whnf)
                | (refine append_same ?_; conv => whnf)
                | (refine part_tn_n (by omega) ?_; conv => whnf)
                | (refine And.intro (pureL_ii _ _) ?_; conv => whnf)
                | (refine iFactorShape_call trivial ?_; conv => whnf)
                | (refine takeN_in ?_; conv => whnf)
                | (refine And.intro (pureL_ints _ _) ?_; conv => whnf)
                | (refine cut_ints ?_; conv => whnf)
                | (refine sameNums_call ?_; conv => whnf)
                | (refine set_force ?_; conv => whnf)
                | (refine And.intro (by kernel_rfl) ?_; conv => whnf)
                | (refine aIf_tt (by assumption) ?_; conv => whnf)
                | refine aIf_eqf ?_
                | refine aIf_not ?_
                | (refine aIf_dec (fun _ => ?_) (fun _ => ?_) <;> conv => whnf)
                | (refine aIf_in (fun _ => ?_) (fun _ => ?_) <;> conv => whnf))
              all_goals (first | (exfalso; omega) | contradiction | skip)
              exact retS rfl (svP_f fun h' => hS (by rw [e1]; exact (h'.2.2 k hlt).2.1))
          · have hT' : tensorOk (ts.getD k ([], [])).1 (ts.getD k ([], [])).2 = false := by simpa using hT
            conv => whnf
            repeat' (first
              | (refine aIf_t ?_; conv => whnf)
              | (refine aIf_f ?_; conv => whnf)
              | (refine aGet_in rfl ?_; conv => whnf)
              | (refine And.intro (by omega) ?_; conv => whnf)
              | (refine load_same ?_; conv => whnf)
              | (refine And.intro (Nat.le_of_ble_eq_true rfl) ?_; conv => whnf)
              | (refine callG_t ?_; conv => whnf)
              | (refine iTensorOk_call ?_; conv => whnf)
              | (refine append_same ?_; conv => whnf)
              | (refine part_tn_n (by omega) ?_; conv => whnf)
              | (refine And.intro (pureL_ii _ _) ?_; conv => whnf)
              | (refine iFactorShape_call trivial ?_; conv => whnf)
              | (refine takeN_in ?_; conv => whnf)
              | (refine And.intro (pureL_ints _ _) ?_; conv => whnf)
              | (refine set_force ?_; conv => whnf)
              | (refine And.intro (by kernel_rfl) ?_; conv => whnf)
              | (refine aIf_ff (by assumption) ?_; conv => whnf)
              | refine aIf_eqf ?_
              | refine aIf_not ?_
              | (refine aIf_dec (fun _ => ?_) (fun _ => ?_) <;> conv => whnf))
            all_goals (first | (exfalso; omega) | contradiction | skip)
            exact retS rfl (svP_f fun h' => hT (h'.2.2 k hlt).1)
        · conv => whnf
          repeat' (first
            | (refine aIf_t ?_; conv => whnf)
            | (refine aIf_f ?_; conv => whnf)
            | (refine aGet_in rfl ?_; conv => whnf)
            | (refine And.intro (by omega) ?_; conv => whnf)
            | (refine load_same ?_; conv => whnf)
            | (refine callG_t ?_; conv => whnf)
            | (refine iTensorOk_call ?_; conv => whnf)
            | (refine allBetween_call trivial ?_; conv => whnf)
            | (refine append_same ?_; conv => whnf)
            | (refine part_tn_n (by omega) ?_; conv => whnf)
            | (refine iFactorShape_call trivial ?_; conv => whnf)
            | (refine takeN_in ?_; conv => whnf)
            | (refine cut_ints ?_; conv => whnf)
            | (refine sameNums_call ?_; conv => whnf)
            | (refine set_force ?_; conv => whnf)
            | refine aIf_eqf ?_
            | refine aIf_not ?_
            | (refine aIf_dec (fun _ => ?_) (fun _ => ?_) <;> conv => whnf)
            | (refine aIf_in (fun _ => ?_) (fun _ => ?_) <;> conv => whnf))
          all_goals (first | (exfalso; omega) | contradiction | skip)
          exact retS rfl (svP_t ⟨h, hl, fun j hj => hall j (by omega)⟩)
    · conv => whnf
      repeat' (first
        | (refine aIf_t ?_; conv => whnf)
        | (refine aIf_f ?_; conv => whnf)
        | (refine fun (_ : _ ≤ maxLen) => ?_; conv => whnf)
        | (refine aGet_in rfl ?_; conv => whnf)
        | (refine load_same ?_; conv => whnf)
        | (refine And.intro rfl (And.intro (List.cons_ne_nil _ _) ?_); conv => whnf)
        | (refine And.intro (Nat.le_of_ble_eq_true rfl) ?_; conv => whnf)
        | (refine callG_t ?_; conv => whnf)
        | (refine append_same ?_; conv => whnf)
        | (refine And.intro (pureL_ii _ _) ?_; conv => whnf)
        | (refine iSumOk_call trivial ?_; conv => whnf)
        | (refine takeN_in ?_; conv => whnf)
        | (refine And.intro (pureL_ints _ _) ?_; conv => whnf)
        | (refine And.intro (by kernel_rfl) ?_; conv => whnf)
        | refine aIf_eqf ?_
        | refine aIf_not ?_
        | (refine aIf_dec (fun _ => ?_) (fun _ => ?_) <;> conv => whnf))
      all_goals (first | (exfalso; omega) | contradiction | exact retS rfl (svP_f fun h' => hl h'.2.1))
  · conv => whnf
    repeat' (first
      | (refine aIf_t ?_; conv => whnf)
      | (refine aIf_f ?_; conv => whnf)
      | (refine fun (_ : _ ≤ maxLen) => ?_; conv => whnf)
      | (refine aGet_in rfl ?_; conv => whnf)
      | (refine load_same ?_; conv => whnf)
      | (refine And.intro rfl (And.intro (List.cons_ne_nil _ _) ?_); conv => whnf)
      | (refine And.intro (Nat.le_of_ble_eq_true rfl) ?_; conv => whnf)
      | (refine callG_t ?_; conv => whnf)
      | (refine append_same ?_; conv => whnf)
      | (refine And.intro (pureL_ii _ _) ?_; conv => whnf)
      | (refine iSumOk_call trivial ?_; conv => whnf)
      | (refine takeN_in ?_; conv => whnf)
      | (refine And.intro (pureL_ints _ _) ?_; conv => whnf)
      | (refine And.intro (by kernel_rfl) ?_; conv => whnf)
      | refine aIf_eqf ?_
      | refine aIf_not ?_
      | (refine aIf_dec (fun _ => ?_) (fun _ => ?_) <;> conv => whnf))
    all_goals (first | contradiction | exact retS rfl (svP_f fun h' => h h'.1))
theorem factorsOk_call {c d e g : Nat} {zs o : List Int} {fs : List (List Int)} {ts : List T2} {env : List AV} {rows : List Row} {ctr low : Nat} {k : AV → St → Prop} (hpre : True) (h : k (.bool (decide (svP zs fs o ts))) ⟨env, rows, ctr + 1, low⟩) :
    CallB Try.prog 80 ⟨env, rows, ctr, low⟩ [.agg [.sl c zs.length (zs.map (.int .i64)), .sl d fs.length (fs.map (slI d)), .sl e o.length (o.map (.int .i64))], .sl g ts.length (ts.flatMap (tnC g))] k := callS_in factorsOk_sound ((c, zs, d, fs, e, o), g, ts) hpre rfl h
end Go.Proofs.Ytmgggbgejdkamaa

/- Chapter 4: SumValue of the program. -/
namespace Go.Proofs.Ytmgggbgejdkamaa
set_option maxRecDepth 20000
open Go.RowKit Go.Am
set_option linter.unusedSimpArgs false
attribute [local irreducible] aPlan aGet aIf aLoop aCall RetB NextB CallB CallG aCut aSet aAppend
/-- The index, in a factor of letters, of what counters show. -/
def ixL (zs ls : List Int) (i : Int) : Int := idxTo (turned zs ls) (turned (places zs i) ls) (turned zs ls).length
/-- The product of the numbers of the first k factors. -/
def facT (zs : List Int) (fs : List (List Int)) (ts : List T2) (i : Int) : Nat → Int
  | 0 => 1
  | k + 1 => IntKind.i64.wrap (facT zs fs ts i k * (ts.getD k ([], [])).2.getD (ixL zs (fs.getD k []) i).toNat 0)
structure SvFacts (zs : List Int) (fs : List (List Int)) (ts : List T2) (i : Int) (k : Nat) : Prop where
  i3 : (fs.getD k []).length ≤ 3
  il : ∀ j, j < (fs.getD k []).length → 0 ≤ (fs.getD k []).getD j 0 ∧ (fs.getD k []).getD j 0 < (places zs i).length
  pl : (turned (places zs i) (fs.getD k [])).length = (ts.getD k ([], [])).1.length
  ia : indexAt (ts.getD k ([], [])).1 (turned (places zs i) (fs.getD k [])) = ixL zs (fs.getD k []) i
  ib : idxTo (ts.getD k ([], [])).1 (turned (places zs i) (fs.getD k [])) (ts.getD k ([], [])).1.length = ixL zs (fs.getD k []) i
  rg : 0 ≤ ixL zs (fs.getD k []) i ∧ ixL zs (fs.getD k []) i < (ts.getD k ([], [])).2.length
theorem sizes_in {zs o : List Int} {fs : List (List Int)} (h : sumP zs fs o) : ∀ j, j < zs.length → 1 ≤ zs.getD j 0 ∧ zs.getD j 0 ≤ 3 := (btw_iff _ _ _).1 h.2.1
/-- Tensors of the shapes of factors, whatever their numbers. -/
def svQ (zs : List Int) (fs : List (List Int)) (o : List Int) (ts : List T2) : Prop := sumP zs fs o ∧ ts.length = fs.length ∧ ∀ k, k < ts.length → (ts.getD k ([], [])).1 = turned zs (fs.getD k []) ∧ ((ts.getD k ([], [])).2.length : Int) = cntTo (turned zs (fs.getD k [])) (turned zs (fs.getD k [])).length
theorem svP_Q {zs o : List Int} {fs : List (List Int)} {ts : List T2} (h : svP zs fs o ts) : svQ zs fs o ts := ⟨h.1, h.2.1, fun k hk => by
  obtain ⟨hT, hS, -⟩ := h.2.2 k hk
  have ht := ((tensorOk_iff _ _).1 hT).2.1
  rw [hS] at ht
  exact ⟨hS, ht⟩⟩
theorem sv_facts {zs o : List Int} {fs : List (List Int)} {ts : List T2} {i : Int} {k : Nat} (h : svQ zs fs o ts) (hi : 0 ≤ i ∧ i ≤ 1000) (hk : k < fs.length) : SvFacts zs fs ts i k := by
  obtain ⟨h1, h2, h3⟩ := h
  have hz := sizes_in h1
  have hl := lettersP_k h1.2.2.2.2.1 hk
  obtain ⟨hS, ht⟩ := h3 k (by omega)
  have hp := pk_facts hz hi hl
  have hin := difP_in hl.2
  refine ⟨hl.1, fun j hj => by rw [places_length]; exact hin j hj, by rw [hS, turned_length, turned_length], by rw [hS]; exact hp.ix, by rw [hS]; rfl, ?_⟩
  rw [ht]; exact hp.rg
/-! Tensors in a row, each from where it is. -/
abbrev MT := List (Nat × T2)
def mtC (x : Nat × T2) : List AV := tnC x.1 x.2
theorem mtC_length (x : Nat × T2) : (mtC x).length = 2 := rfl
theorem mtC_pure (x : Nat × T2) : pureL (mtC x) = true := tnC_pure _ _
theorem mt_all (g : Nat) (ts : List T2) : (ts.map fun t => (g, t)).flatMap mtC = ts.flatMap (tnC g) := by
  rw [List.flatMap_map]; rfl
theorem mt_snd (g : Nat) (ts : List T2) : (ts.map fun t => (g, t)).map Prod.snd = ts := by
  rw [List.map_map]; exact List.map_id _
theorem mt_getD (M : MT) (k : Nat) : (M.map Prod.snd).getD k ([], []) = (M.getD k (0, [], [])).2 := by
  simp only [List.getD, List.getElem?_map]
  cases M[k]? <;> rfl
theorem get_mt_n {k j : Nat} {M : MT} {u : AV} {K : AV → Prop} (h : k < M.length) (hj : (mtC (M.getD k (0, [], [])))[j]? = some u) (hK : K u) : aGet (((M.flatMap mtC).drop ((k : Int).toNat * 2)).drop j) 0 K := get_flat mtC_length _ (by rw [Int.toNat_natCast]) h hj hK
theorem get_mt {j : Nat} {i : Int} {M : MT} {u : AV} {K : AV → Prop} (h : 0 ≤ i ∧ i < M.length) (hj : (mtC (M.getD i.toNat (0, [], [])))[j]? = some u) (hK : K u) : aGet (((M.flatMap mtC).drop (i.toNat * 2)).drop j) 0 K := get_flat mtC_length _ rfl (by omega) hj hK
theorem part_mt_n {k : Nat} {M : MT} {K : AV → Prop} (h : k < M.length) (hk : K (.agg (mtC (M.getD k (0, [], []))))) :
    aTakeN 2 ((M.flatMap mtC).drop ((k : Int).toNat * 2)) K := part_flat mtC_length (fun _ => rfl) _ (by rw [Int.toNat_natCast]) h hk
theorem part_mt {i : Int} {M : MT} {K : AV → Prop} (h : 0 ≤ i ∧ i < M.length) (hk : K (.agg (mtC (M.getD i.toNat (0, [], []))))) :
    aTakeN 2 ((M.flatMap mtC).drop (i.toNat * 2)) K := part_flat mtC_length (fun _ => rfl) _ rfl (by omega) hk
theorem pureL_mt (M : MT) : pureL (M.flatMap mtC) = true := pureL_flat mtC_pure _
theorem o_facts {zs o : List Int} {fs : List (List Int)} {i : Int} (h : sumP zs fs o) (hi : 0 ≤ i ∧ i ≤ 1000) : PkFacts zs o i := pk_facts (sizes_in h) hi h.2.2.2.1
set_option maxHeartbeats 4000000 in
theorem factorsAt_sound : Sound Try.prog 112 (fnS (ι := IS × Nat × MT × Nat × Nat) (fun | ((c, zs, d, fs, e, o), g, M, q, i) => [.agg [.sl c zs.length (zs.map (.int .i64)), .sl d fs.length (fs.map (slI d)), .sl e o.length (o.map (.int .i64))], .sl g M.length (M.flatMap mtC), .sl q (places zs i).length ((places zs i).map (.int .i64))]) (fun | ((_, zs, _, fs, _, o), _, M, _, i) => svQ zs fs o (M.map Prod.snd) ∧ i ≤ 1000) (fun | ((_, zs, _, fs, _, _), _, M, _, i) => .int .i64 (facT zs fs (M.map Prod.snd) i fs.length))) := by
  refine sound_of Try.func112 rfl (enters_of Try.func112 (by kernel_rfl) (by kernel_rfl)) ?_
  rintro ⟨⟨c, zs, d, fs, e, o⟩, g, M, q, i⟩ hpre
  obtain ⟨h, hi⟩ : svQ zs fs o (M.map Prod.snd) ∧ i ≤ 1000 := hpre
  have hmax : maxLen = 9223372036854775807 := rfl
  have hl : M.length = fs.length := by have := h.2.1; rwa [List.length_map] at this
  conv => whnf
  repeat' (first
    | (refine plan_in (id := 6) [0, 1, 2, 3, 4, 5, 6, 7, 8, 9, 10, 11, 12] (by kernel_rfl) (by kernel_rfl) ?_; conv => whnf)
    | (refine fun (_ : _ ≤ maxLen) => ?_; conv => whnf)
    | (refine aGet_in rfl ?_; conv => whnf)
    | (refine And.intro rfl (And.intro (List.cons_ne_nil _ _) ?_); conv => whnf)
    | (refine append_same ?_; conv => whnf))
  refine loop_u (ι := Nat) [false, true, true, false, false, false, false, true, false, false, false, false, true, true, true, false, false, false, false, false, false, false, false, false, false, false, false, false, false, false, false, false, false, false, false, false, false] (fun k => [(7, .int .i64 (facT zs fs (M.map Prod.snd) i k)), (14, .int .i64 k)]) (fun _ => []) (fun k => k ≤ fs.length) (fun k => fs.length - k) (0) (Nat.zero_le _) ?_ ?_
  · conv => whnf
    repeat' (first
      | exact trivial
      | exact rfl
      | exact pureL_ints _ _
      | exact pureL_ii _ _
      | exact pureL_mt _
      | refine Or.inr ?_
      | refine And.intro ?_ ?_
      | exact Nat.le_of_ble_eq_true rfl)
  · rintro k hk
    have hk : k ≤ fs.length := hk
    by_cases hlt : k < fs.length
    · obtain ⟨i3, il, ipl, ia, ib, ir⟩ := sv_facts (i := (i : Int)) h (by omega) hlt
      rw [mt_getD] at ipl ia ib ir
      have i3' : (fs.getD k []).length ≤ 1048576 := by omega
      have ir' : 0 ≤ indexAt (M.getD k (0, [], [])).2.1 (turned (places zs i) (fs.getD k [])) ∧ indexAt (M.getD k (0, [], [])).2.1 (turned (places zs i) (fs.getD k [])) < (M.getD k (0, [], [])).2.2.length := by rw [ia]; exact ir
      have e : facT zs fs (M.map Prod.snd) i (k + 1) = IntKind.i64.wrap (facT zs fs (M.map Prod.snd) i k * (M.getD k (0, [], [])).2.2.getD (indexAt (M.getD k (0, [], [])).2.1 (turned (places zs i) (fs.getD k []))).toNat 0) := by rw [ia, ← mt_getD]; rfl
      conv => whnf
      repeat' (first
        | (refine plan_in (id := 6) [0, 1, 2, 3, 4, 5, 6, 7, 8, 9, 10, 11, 12] (by kernel_rfl) (by kernel_rfl) ?_; conv => whnf)
        | (refine get_int (by omega) ?_; conv => whnf)
        | (refine aGet_in rfl ?_; conv => whnf)
        | (refine And.intro (by omega) ?_; conv => whnf)
        | (refine And.intro (Nat.le_of_ble_eq_true rfl) ?_; conv => whnf)
        | (refine pickNums_call (by first | omega | assumption | (refine ⟨?_, ?_⟩ <;> first | assumption | omega) | (refine ⟨?_, ?_, ?_⟩ <;> first | assumption | omega)) ?_; conv => whnf)
        | (refine append_same ?_; conv => whnf)
        | (refine get_ii_n (by omega) ?_; conv => whnf)
        | (refine part_mt_n (by omega) ?_; conv => whnf)
        | (refine And.intro (pureL_ints _ _) ?_; conv => whnf)
        | (refine cut_ints ?_; conv => whnf)
        | (refine iIndexAt_call ?_; conv => whnf)
        | (refine set_force ?_; conv => whnf)
        | (refine And.intro (by kernel_rfl) ?_; conv => whnf)
        | (refine aIf_dec (fun _ => ?_) (fun _ => ?_) <;> conv => whnf))
      all_goals (first | (exfalso; omega) | skip)
      refine next_u (k + 1) (show fs.length - (k + 1) < fs.length - k by omega) (by exact (by omega : k + 1 ≤ fs.length)) ?_
      conv => whnf
      rw [e]
      repeat' (first
        | exact trivial
        | exact rfl
        | exact pureL_ints _ _
        | exact pureL_ii _ _
        | exact pureL_mt _
        | refine Or.inr ?_
        | refine And.intro ?_ ?_
        | exact Nat.le_of_ble_eq_true rfl
        | exact int_eq (by rw [IntWalk.i64_in _ (by omega)] <;> omega))
    · have he : k = fs.length := by omega
      conv => whnf
      repeat' (first
        | (refine plan_in (id := 6) [0, 1, 2, 3, 4, 5, 6, 7, 8, 9, 10, 11, 12] (by kernel_rfl) (by kernel_rfl) ?_; conv => whnf)
        | (refine get_nat (by omega) ?_; conv => whnf)
        | (refine aGet_in rfl ?_; conv => whnf)
        | (refine And.intro (by omega) ?_; conv => whnf)
        | (refine pickNums_call (by first | omega | assumption | (refine ⟨?_, ?_⟩ <;> first | assumption | omega) | (refine ⟨?_, ?_, ?_⟩ <;> first | assumption | omega)) ?_; conv => whnf)
        | (refine append_same ?_; conv => whnf)
        | (refine get_ii_n (by omega) ?_; conv => whnf)
        | (refine part_mt_n (by omega) ?_; conv => whnf)
        | (refine cut_ints ?_; conv => whnf)
        | (refine iIndexAt_call ?_; conv => whnf)
        | (refine set_force ?_; conv => whnf)
        | (refine aIf_dec (fun _ => ?_) (fun _ => ?_) <;> conv => whnf))
      all_goals (first | (exfalso; omega) | skip)
      exact retS rfl (int_eq (by rw [he]))
theorem factorsAt_call {c d e g q i : Nat} {zs o : List Int} {fs : List (List Int)} {M : MT} {env : List AV} {rows : List Row} {ctr low : Nat} {k : AV → St → Prop} (hpre : svQ zs fs o (M.map Prod.snd) ∧ i ≤ 1000) (h : k (.int .i64 (facT zs fs (M.map Prod.snd) i fs.length)) ⟨env, rows, ctr + 1, low⟩) :
    CallB Try.prog 112 ⟨env, rows, ctr, low⟩ [.agg [.sl c zs.length (zs.map (.int .i64)), .sl d fs.length (fs.map (slI d)), .sl e o.length (o.map (.int .i64))], .sl g M.length (M.flatMap mtC), .sl q (places zs i).length ((places zs i).map (.int .i64))] k := callS_in factorsAt_sound ((c, zs, d, fs, e, o), g, M, q, i) hpre rfl h
/-- The sums behind the first turns. -/
def svT (zs : List Int) (fs : List (List Int)) (o : List Int) (ts : List T2) : Nat → List Int
  | 0 => List.replicate (cntTo (turned zs o) (turned zs o).length).toNat 0
  | i + 1 => (svT zs fs o ts i).set (ixL zs o i).toNat (IntKind.i64.wrap ((svT zs fs o ts i).getD (ixL zs o i).toNat 0 + facT zs fs ts i fs.length))
theorem svT_length (zs : List Int) (fs : List (List Int)) (o : List Int) (ts : List T2) : ∀ i, (svT zs fs o ts i).length = (cntTo (turned zs o) (turned zs o).length).toNat
  | 0 => by simp [svT]
  | i + 1 => by rw [svT, List.length_set, svT_length zs fs o ts i]
def svM (zs : List Int) (fs : List (List Int)) (o : List Int) (ts : List T2) : TM := if svP zs fs o ts then told (turned zs o) (svT zs fs o ts (cntTo zs zs.length).toNat) else noT
theorem svM_t {zs : List Int} {fs : List (List Int)} {o : List Int} {ts : List T2} (h : svP zs fs o ts) : svM zs fs o ts = told (turned zs o) (svT zs fs o ts (cntTo zs zs.length).toNat) := if_pos h
theorem svM_f {zs : List Int} {fs : List (List Int)} {o : List Int} {ts : List T2} (h : ¬ svP zs fs o ts) : svM zs fs o ts = noT := if_neg h
theorem svM_len (zs : List Int) (fs : List (List Int)) (o : List Int) (ts : List T2) : (svM zs fs o ts).1.length ≤ 3 ∧ (svM zs fs o ts).2.1.length ≤ 64 := by
  unfold svM; split
  · exact told_len _ _
  · exact ⟨Nat.zero_le _, Nat.zero_le _⟩
def sSumValue : CSpec := fnTB (ι := IS × Nat × List T2) 3 (fun | ((c, zs, d, fs, e, o), g, ts) => [.agg [.sl c zs.length (zs.map (.int .i64)), .sl d fs.length (fs.map (slI d)), .sl e o.length (o.map (.int .i64))], .sl g ts.length (ts.flatMap (tnC g))]) (fun _ => True) (fun | ((_, zs, _, fs, _, o), _, ts) => svM zs fs o ts)
set_option maxHeartbeats 4000000 in
theorem sumsOf_sound : Sound Try.prog 82 (fnT (ι := IS × Nat × MT) 3 (fun | ((c, zs, d, fs, e, o), g, M) => [.agg [.sl c zs.length (zs.map (.int .i64)), .sl d fs.length (fs.map (slI d)), .sl e o.length (o.map (.int .i64))], .sl g M.length (M.flatMap mtC)]) (fun | ((_, zs, _, fs, _, o), _, M) => svQ zs fs o (M.map Prod.snd)) (fun | ((_, zs, _, _, _, o), _, _) => turned zs o) (fun | ((_, zs, _, fs, _, o), _, M) => svT zs fs o (M.map Prod.snd) (cntTo zs zs.length).toNat)) := by
  refine sound_of Try.func82 rfl (enters_of Try.func82 (by kernel_rfl) (by kernel_rfl)) ?_
  rintro ⟨⟨c, zs, d, fs, e, o⟩, g, M⟩ hpre
  have h : svQ zs fs o (M.map Prod.snd) := hpre
  have hmax : maxLen = 9223372036854775807 := rfl
  generalize hts : M.map Prod.snd = ts at h
  have h1 := h.1
  have hz := sizes_in h1
  have hz4 : ∀ j, j < zs.length → 1 ≤ zs.getD j 0 ∧ zs.getD j 0 ≤ 4 := fun j hj => by have := hz j hj; omega
  have hc := cnt3 h1.1 hz
  have ho := h1.2.2.2.1
  have ho3 : o.length ≤ 1048576 := by have := ho.1; omega
  have hoin := difP_in ho.2
  have hsh := pk_shape hz ho
  have hcs := cnt64 hsh (Nat.le_refl _)
  have hcc : countOf (turned zs o) = cntTo (turned zs o) (turned zs o).length := if_pos hsh
  have hsc : scN zs fs o = cntTo zs zs.length := if_pos h1
  have hz5 : zs.length ≤ 1048576 := by have := h1.1; omega
  have hM : svQ zs fs o (M.map Prod.snd) := by rw [hts]; exact h
  conv => whnf
  repeat' (first
    | (refine plan_in (id := 7) [0, 1, 2, 3, 4, 9, 10, 11, 5, 6, 7, 8, 12, 13, 14, 15] (by kernel_rfl) (by kernel_rfl) ?_; conv => whnf)
    | (refine aGet_in rfl ?_; conv => whnf)
    | (refine And.intro (And.intro (Int.le_refl _) (And.intro (by kernel_rfl) (And.intro rfl (by kernel_rfl)))) (And.intro (And.intro (by omega) (And.intro (bytes_le (b := 8) rfl (by omega)) (by omega))) ?_); conv => whnf)
    | (refine load_same ?_; conv => whnf)
    | (refine And.intro rfl (And.intro (List.cons_ne_nil _ _) ?_); conv => whnf)
    | (refine And.intro (Nat.le_of_ble_eq_true rfl) ?_; conv => whnf)
    | (refine callG_t ?_; conv => whnf)
    | (refine pickNums_call (by first | omega | assumption | (refine ⟨?_, ?_⟩ <;> first | assumption | omega) | (refine ⟨?_, ?_, ?_⟩ <;> first | assumption | omega)) ?_; conv => whnf)
    | (refine append_same ?_; conv => whnf)
    | (refine And.intro (pureL_ii _ _) ?_; conv => whnf)
    | (refine iSumCost_call trivial ?_; conv => whnf)
    | (refine takeN_in ?_; conv => whnf)
    | (refine And.intro (pureL_ints _ _) ?_; conv => whnf)
    | (refine cut_ints ?_; conv => whnf)
    | (refine iCountOf_call ?_; conv => whnf)
    | (refine And.intro (by kernel_rfl) ?_; conv => whnf))
  all_goals (first | (exfalso; omega) | contradiction | skip)
  have h0 : rep (countOf (turned zs o)).toNat [AV.int .i64 0] = (svT zs fs o ts 0).map (.int .i64) := by rw [hcc, rep_ints]; rfl
  refine loop_u (ι := Nat) [false, true, true, false, true, true, true, false, false, false, false, false, false, false, false, false, false, false, true, true, false, false, false, false, false, false, false, false, false, false, false, false, false, false, false, false, false, false, false, false, false, false, false, false, false] (fun i => [(19, .int .i64 i)]) (fun i => [(5, (svT zs fs o ts i).map (.int .i64))]) (fun i => (i : Int) ≤ cntTo zs zs.length) (fun i => (cntTo zs zs.length).toNat - i) (0) (by omega) ?_ ?_
  · conv => whnf
    repeat' (first | exact le_ints h0 | refine And.intro ?_ ?_)
    repeat' (first
      | exact trivial
      | exact rfl
      | exact pureL_ints _ _
      | exact Or.inl (And.intro rfl rfl)
      | exact le_ints rfl
      | exact pureL_ii _ _
      | exact pureL_mt _
      | refine Or.inr ?_
      | refine And.intro ?_ ?_
      | exact Nat.le_of_ble_eq_true rfl)
  · rintro i hi
    have hi : (i : Int) ≤ cntTo zs zs.length := hi
    have hi3 : i ≤ 1000 := by omega
    have hsl := svT_length zs fs o ts i
    by_cases hlt : (i : Int) < cntTo zs zs.length
    · have ofc := o_facts (i := (i : Int)) h1 (by omega)
      have hoin' : ∀ j, j < o.length → 0 ≤ o.getD j 0 ∧ o.getD j 0 < (places zs i).length := fun j hj => by rw [places_length]; exact hoin j hj
      have hix : indexAt (turned zs o) (turned (places zs i) o) = ixL zs o i := ofc.ix
      have hrg : 0 ≤ ixL zs o i ∧ ixL zs o i < cntTo (turned zs o) (turned zs o).length := ofc.rg
      have ir : 0 ≤ indexAt (turned zs o) (turned (places zs i) o) ∧ indexAt (turned zs o) (turned (places zs i) o) < (svT zs fs o ts i).length := by rw [hix]; omega
      have en : svT zs fs o ts (i + 1) = (svT zs fs o ts i).set (indexAt (turned zs o) (turned (places zs i) o)).toNat (IntKind.i64.wrap ((svT zs fs o ts i).getD (indexAt (turned zs o) (turned (places zs i) o)).toNat 0 + facT zs fs ts i fs.length)) := by rw [hix]; rfl
      conv => whnf
      repeat' (first
        | (refine plan_in (id := 7) [0, 1, 2, 3, 4, 9, 10, 11, 5, 6, 7, 8, 12, 13, 14, 15] (by kernel_rfl) (by kernel_rfl) ?_; conv => whnf)
        | (refine get_int0 (by omega) ?_; conv => whnf)
        | (refine aGet_in rfl ?_; conv => whnf)
        | (refine And.intro (by omega) ?_; conv => whnf)
        | (refine load_same ?_; conv => whnf)
        | (refine And.intro (Nat.le_of_ble_eq_true rfl) ?_; conv => whnf)
        | (refine callG_t ?_; conv => whnf)
        | (refine pickNums_call (by first | omega | assumption | (refine ⟨?_, ?_⟩ <;> first | assumption | omega) | (refine ⟨?_, ?_, ?_⟩ <;> first | assumption | omega)) ?_; conv => whnf)
        | (refine countersAt_call (by first | omega | assumption | (refine ⟨?_, ?_⟩ <;> first | assumption | omega) | (refine ⟨?_, ?_, ?_⟩ <;> first | assumption | omega)) ?_; conv => whnf)
        | (refine append_same ?_; conv => whnf)
        | (refine And.intro (pureL_ii _ _) ?_; conv => whnf)
        | (refine And.intro (pureL_mt _) ?_; conv => whnf)
        | (refine factorsAt_call (by constructor <;> first | assumption | omega) ?_; conv => whnf)
        | (refine takeN_in ?_; conv => whnf)
        | (refine And.intro (pureL_ints _ _) ?_; conv => whnf)
        | (refine cut_ints ?_; conv => whnf)
        | (refine iIndexAt_call ?_; conv => whnf)
        | (refine And.intro rfl (And.intro rfl (And.intro (by first | omega | (rw [List.length_map]; omega)) ?_)); conv => whnf)
        | (refine set_int ?_ (by omega); conv => whnf)
        | (refine set_force ?_; conv => whnf)
        | (refine And.intro (by kernel_rfl) ?_; conv => whnf)
        | (refine aIf_dec (fun _ => ?_) (fun _ => ?_) <;> conv => whnf))
      all_goals (first | (exfalso; omega) | contradiction | skip)
      refine next_u (i + 1) (show (cntTo zs zs.length).toNat - (i + 1) < (cntTo zs zs.length).toNat - i by omega) (by show ((i + 1 : Nat) : Int) ≤ _; omega) ?_
      conv => whnf
      rw [en, hts]
      repeat' (first
        | exact trivial
        | exact rfl
        | exact pureL_ints _ _
        | exact Or.inl (And.intro rfl rfl)
        | exact le_ints rfl
        | exact pureL_ii _ _
        | exact pureL_mt _
        | refine Or.inr ?_
        | refine And.intro ?_ ?_
        | exact Nat.le_of_ble_eq_true rfl
        | exact int_eq (by rw [IntWalk.i64_in _ (by omega)] <;> omega))
    · have he : i = (cntTo zs zs.length).toNat := by omega
      conv => whnf
      repeat' (first
        | (refine plan_in (id := 7) [0, 1, 2, 3, 4, 9, 10, 11, 5, 6, 7, 8, 12, 13, 14, 15] (by kernel_rfl) (by kernel_rfl) ?_; conv => whnf)
        | (refine get_nat0 (by omega) ?_; conv => whnf)
        | (refine aGet_in rfl ?_; conv => whnf)
        | (refine And.intro (by omega) ?_; conv => whnf)
        | (refine load_same ?_; conv => whnf)
        | (refine And.intro (Nat.le_of_ble_eq_true rfl) ?_; conv => whnf)
        | (refine callG_t ?_; conv => whnf)
        | (refine pickNums_call (by first | omega | assumption | (refine ⟨?_, ?_⟩ <;> first | assumption | omega) | (refine ⟨?_, ?_, ?_⟩ <;> first | assumption | omega)) ?_; conv => whnf)
        | (refine countersAt_call (by first | omega | assumption | (refine ⟨?_, ?_⟩ <;> first | assumption | omega) | (refine ⟨?_, ?_, ?_⟩ <;> first | assumption | omega)) ?_; conv => whnf)
        | (refine append_same ?_; conv => whnf)
        | (refine factorsAt_call (by constructor <;> first | assumption | omega) ?_; conv => whnf)
        | (refine takeN_in ?_; conv => whnf)
        | (refine cut_ints ?_; conv => whnf)
        | (refine iIndexAt_call ?_; conv => whnf)
        | (refine set_nat ?_ (by omega); conv => whnf)
        | (refine set_force ?_; conv => whnf)
        | (refine And.intro (by kernel_rfl) ?_; conv => whnf)
        | (refine aIf_dec (fun _ => ?_) (fun _ => ?_) <;> conv => whnf))
      all_goals (first | (exfalso; omega) | contradiction | skip)
      subst he
      subst hts
      exact retT (by decide) rfl rfl rfl (by rw [hcc]; exact hsl.symm)
theorem sumsOf_call {c d e g : Nat} {zs o : List Int} {fs : List (List Int)} {ts : List T2} {env : List AV} {rows : List Row} {ctr low : Nat} {k : AV → St → Prop} (hpre : svQ zs fs o ts)
    (hk : k (.agg [.ref rows.length ctr 0 (turned zs o).length, .ref (rows.length + 1) ctr 0 (svT zs fs o ts (cntTo zs zs.length).toNat).length]) ⟨env, rows ++ [⟨ctr, 3, 1, (turned zs o).map (.int .i64)⟩, ⟨ctr, 3, 1, (svT zs fs o ts (cntTo zs zs.length).toNat).map (.int .i64)⟩], ctr + 1, low⟩) :
    CallB Try.prog 82 ⟨env, rows, ctr, low⟩ [.agg [.sl c zs.length (zs.map (.int .i64)), .sl d fs.length (fs.map (slI d)), .sl e o.length (o.map (.int .i64))], .sl g ts.length (ts.flatMap (tnC g))] k := by
  have h := callT_in sumsOf_sound ((c, zs, d, fs, e, o), g, ts.map fun t => (g, t)) (show svQ zs fs o ((ts.map fun t => (g, t)).map Prod.snd) by rw [mt_snd]; exact hpre) (env := env) (rows := rows) (ctr := ctr) (low := low) (k := k) (by
    show k (.agg [.ref rows.length ctr 0 (turned zs o).length, .ref (rows.length + 1) ctr 0 (svT zs fs o ((ts.map fun t => (g, t)).map Prod.snd) (cntTo zs zs.length).toNat).length]) ⟨env, rows ++ [⟨ctr, 3, 1, (turned zs o).map (.int .i64)⟩, ⟨ctr, 3, 1, (svT zs fs o ((ts.map fun t => (g, t)).map Prod.snd) (cntTo zs zs.length).toNat).map (.int .i64)⟩], ctr + 1, low⟩
    rw [mt_snd]; exact hk)
  have em : (ts.map fun t => (g, t)).flatMap mtC = ts.flatMap (tnC g) := mt_all g ts
  have h' : CallB Try.prog 82 ⟨env, rows, ctr, low⟩ [.agg [.sl c zs.length (zs.map (.int .i64)), .sl d fs.length (fs.map (slI d)), .sl e o.length (o.map (.int .i64))], .sl g (ts.map fun t => (g, t)).length ((ts.map fun t => (g, t)).flatMap mtC)] k := h
  rw [em, List.length_map] at h'
  exact h'
set_option maxHeartbeats 4000000 in
theorem iSumValue_sound : Sound Try.prog 62 sSumValue := by
  refine sound_of Try.func62 rfl (enters_of Try.func62 (by kernel_rfl) (by kernel_rfl)) ?_
  rintro ⟨⟨c, zs, d, fs, e, o⟩, g, ts⟩ -
  have hmax : maxLen = 9223372036854775807 := rfl
  by_cases h : svP zs fs o ts
  · have hq := svP_Q h
    have hM := svM_t h
    conv => whnf
    repeat' (first
      | (refine aGet_in rfl ?_; conv => whnf)
      | (refine load_same ?_; conv => whnf)
      | (refine And.intro rfl (And.intro (List.cons_ne_nil _ _) ?_); conv => whnf)
      | (refine And.intro (Nat.le_of_ble_eq_true rfl) ?_; conv => whnf)
      | (refine orNone_call _ _ rfl rfl (by decide) (by first | rfl | omega) (by first | rfl | omega) (fun _ => ?_) (fun _ => ?_) <;> conv => whnf)
      | (refine callG_t ?_; conv => whnf)
      | (refine append_same ?_; conv => whnf)
      | (refine And.intro (pureL_ii _ _) ?_; conv => whnf)
      | (refine And.intro (pureL_tn _ _) ?_; conv => whnf)
      | (refine factorsOk_call trivial ?_; conv => whnf)
      | (refine sumsOf_call (by assumption) ?_; conv => whnf)
      | (refine takeN_in ?_; conv => whnf)
      | (refine And.intro (pureL_ints _ _) ?_; conv => whnf)
      | (refine set_force ?_; conv => whnf)
      | (refine And.intro (by kernel_rfl) ?_; conv => whnf)
      | refine aIf_not ?_
      | (refine aIf_dec (fun _ => ?_) (fun _ => ?_) <;> conv => whnf))
    all_goals (first | (exfalso; omega) | contradiction | skip)
    · rename_i ht
      refine retTB (hM := hM.trans (told_t ht)) ?_ ?_ ?_ ?_ ?_
      all_goals (first | exact rfl | decide | (simp; done))
    · rename_i ht
      refine retTB (hM := hM.trans (told_f ht)) ?_ ?_ ?_ ?_ ?_
      all_goals (first | exact rfl | decide | (simp; done))
  · conv => whnf
    repeat' (first
      | (refine load_same ?_; conv => whnf)
      | (refine And.intro rfl (And.intro (List.cons_ne_nil _ _) ?_); conv => whnf)
      | (refine And.intro (Nat.le_of_ble_eq_true rfl) ?_; conv => whnf)
      | (refine callG_t ?_; conv => whnf)
      | (refine append_same ?_; conv => whnf)
      | (refine And.intro (pureL_ii _ _) ?_; conv => whnf)
      | (refine And.intro (pureL_tn _ _) ?_; conv => whnf)
      | (refine factorsOk_call trivial ?_; conv => whnf)
      | (refine takeN_in ?_; conv => whnf)
      | (refine And.intro (pureL_ints _ _) ?_; conv => whnf)
      | (refine set_force ?_; conv => whnf)
      | (refine And.intro (by kernel_rfl) ?_; conv => whnf)
      | refine aIf_not ?_
      | (refine aIf_dec (fun _ => ?_) (fun _ => ?_) <;> conv => whnf))
    all_goals (first | contradiction | skip)
    refine retTB (hM := svM_f h) ?_ ?_ ?_ ?_ ?_
    all_goals (first | exact rfl | decide | (simp; done))
end Go.Proofs.Ytmgggbgejdkamaa
