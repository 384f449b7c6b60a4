import Derived.Test.YtmgggbgejdkamaaV5
/- Chapter 5: an index sum with two factors put together, of the model. -/
namespace Go.Proofs.Ytmgggbgejdkamaa
set_option maxRecDepth 20000
open Go.RowKit Go.Am
set_option linter.unusedSimpArgs false
attribute [local irreducible] aPlan aGet aIf aLoop aCall RetB NextB CallB CallG aCut aSet aAppend
theorem l5Pair_call {c d e : Nat} {zs o : List Int} {fs : List (List Int)} {a b : Int} {env : List AV} {rows : List Row} {ctr low : Nat} {k : AV → St → Prop} (hpre : prP zs fs o a b) (h : k (.agg [.ref rows.length ctr 0 (pairM zs fs o a b).1.length, .ref (rows.length + 1) ctr 0 (pairM zs fs o a b).2.1.length, .ref (rows.length + 2) ctr 0 (pairM zs fs o a b).2.2.length]) ⟨env, rows ++ [⟨ctr, 3, 1, (pairM zs fs o a b).1.map (.int .i64)⟩, ⟨ctr, 22, 1, (pairM zs fs o a b).2.1.map (ownI 3)⟩, ⟨ctr, 3, 1, (pairM zs fs o a b).2.2.map (.int .i64)⟩], ctr + 1, low⟩) :
    CallB Try.prog 70 ⟨env, rows, ctr, low⟩ [.agg [.sl c zs.length (zs.map (.int .i64)), .sl d fs.length (fs.map (slI d)), .sl e o.length (o.map (.int .i64))], .int .i64 a, .int .i64 b] k := callIS_in l5Pair_sound ((c, zs, d, fs, e, o), a, b) hpre h
theorem othTo_le (fs : List (List Int)) (a b : Int) : ∀ k, (othTo fs a b k).length ≤ k
  | 0 => Nat.le_refl _
  | k + 1 => by
    have := othTo_le fs a b k
    by_cases h : (k : Int) ≠ a ∧ (k : Int) ≠ b
    · rw [othTo_t h, List.length_append]; simp; omega
    · rw [othTo_f h]; omega
theorem l5Own_call {c d e : Nat} {zs o : List Int} {fs : List (List Int)} {env : List AV} {rows : List Row} {ctr low : Nat} {k : AV → St → Prop} (hpre : l5P zs fs o) (h : k (.agg [.ref rows.length ctr 0 (ownM zs fs o).1.length, .ref (rows.length + 1) ctr 0 (ownM zs fs o).2.1.length, .ref (rows.length + 2) ctr 0 (ownM zs fs o).2.2.length]) ⟨env, rows ++ [⟨ctr, 3, 1, (ownM zs fs o).1.map (.int .i64)⟩, ⟨ctr, 22, 1, (ownM zs fs o).2.1.map (ownI 3)⟩, ⟨ctr, 3, 1, (ownM zs fs o).2.2.map (.int .i64)⟩], ctr + 1, low⟩) :
    CallB Try.prog 69 ⟨env, rows, ctr, low⟩ [.agg [.sl c zs.length (zs.map (.int .i64)), .sl d fs.length (fs.map (slI d)), .sl e o.length (o.map (.int .i64))]] k := callIS_in l5Own_sound (c, zs, d, fs, e, o) hpre h
theorem l5Left_sound : Sound Try.prog 67 (fnIS (ι := IS) 3 22 (fun | (c, zs, d, fs, e, o) => [.agg [.sl c zs.length (zs.map (.int .i64)), .sl d fs.length (fs.map (slI d)), .sl e o.length (o.map (.int .i64))]]) (fun | (_, zs, _, fs, _, o) => l5P zs fs o) (fun | (_, zs, _, fs, _, o) => ownM zs fs o)) := by
  refine sound_of Try.func67 rfl (enters_of Try.func67 (by kernel_rfl) (by kernel_rfl)) ?_
  rintro ⟨c, zs, d, fs, q, o⟩ hpre
  have h : l5P zs fs o := hpre
  conv => whnf
  repeat' (first
    | (refine load_same ?_; conv => whnf)
    | (refine And.intro rfl (And.intro (List.cons_ne_nil _ _) ?_); conv => whnf)
    | (refine And.intro (Nat.le_of_ble_eq_true rfl) ?_; conv => whnf)
    | (refine callG_t ?_; conv => whnf)
    | (refine append_same ?_; conv => whnf)
    | (refine And.intro (pureL_ii _ _) ?_; conv => whnf)
    | (refine l5Own_call (by assumption) ?_; conv => whnf)
    | (refine takeN_in ?_; conv => whnf)
    | (refine And.intro (pureL_ints _ _) ?_; conv => whnf)
    | (refine set_force ?_; conv => whnf)
    | (refine And.intro (by kernel_rfl) ?_; conv => whnf))
  exact retIS rfl (by decide) (by decide) (by decide) rfl rfl rfl rfl rfl rfl
theorem l5Left_call {c d e : Nat} {zs o : List Int} {fs : List (List Int)} {env : List AV} {rows : List Row} {ctr low : Nat} {k : AV → St → Prop} (hpre : l5P zs fs o) (h : k (.agg [.ref rows.length ctr 0 (ownM zs fs o).1.length, .ref (rows.length + 1) ctr 0 (ownM zs fs o).2.1.length, .ref (rows.length + 2) ctr 0 (ownM zs fs o).2.2.length]) ⟨env, rows ++ [⟨ctr, 3, 1, (ownM zs fs o).1.map (.int .i64)⟩, ⟨ctr, 22, 1, (ownM zs fs o).2.1.map (ownI 3)⟩, ⟨ctr, 3, 1, (ownM zs fs o).2.2.map (.int .i64)⟩], ctr + 1, low⟩) :
    CallB Try.prog 67 ⟨env, rows, ctr, low⟩ [.agg [.sl c zs.length (zs.map (.int .i64)), .sl d fs.length (fs.map (slI d)), .sl e o.length (o.map (.int .i64))]] k := callIS_in l5Left_sound (c, zs, d, fs, e, o) hpre h
theorem l5Narrow_sound : Sound Try.prog 66 (fnS (ι := IS × Int × Int) (fun | ((c, zs, d, fs, e, o), a, b) => [.agg [.sl c zs.length (zs.map (.int .i64)), .sl d fs.length (fs.map (slI d)), .sl e o.length (o.map (.int .i64))], .int .i64 a, .int .i64 b]) (fun | ((_, zs, _, fs, _, o), a, b) => prP zs fs o a b) (fun | ((_, zs, _, fs, _, o), a, b) => .bool (decide ((lfL zs fs o a b).length ≤ 3)))) := by
  refine sound_of Try.func66 rfl (enters_of Try.func66 (by kernel_rfl) (by kernel_rfl)) ?_
  rintro ⟨⟨c, zs, d, fs, q, o⟩, a, b⟩ hpre
  have h : prP zs fs o a b := hpre
  conv => whnf
  repeat' (first
    | (refine fun (_ : _ ≤ maxLen) => ?_; conv => whnf)
    | (refine aGet_in rfl ?_; conv => whnf)
    | (refine load_same ?_; conv => whnf)
    | (refine And.intro rfl (And.intro (List.cons_ne_nil _ _) ?_); conv => whnf)
    | (refine And.intro (Nat.le_of_ble_eq_true rfl) ?_; conv => whnf)
    | (refine callG_t ?_; conv => whnf)
    | (refine append_same ?_; conv => whnf)
    | (refine And.intro (pureL_ii _ _) ?_; conv => whnf)
    | (refine l5Pair_call (by assumption) ?_; conv => whnf)
    | (refine takeN_in ?_; conv => whnf)
    | (refine And.intro (pureL_ints _ _) ?_; conv => whnf)
    | (refine And.intro (by kernel_rfl) ?_; conv => whnf))
  refine retS rfl (bool_eq ?_)
  simp only [decide_eq_true_eq]
  show ((lfL zs fs o a b).length : Int) ≤ 3 ↔ _
  omega
theorem l5Narrow_call {c d e : Nat} {zs o : List Int} {fs : List (List Int)} {a b : Int} {env : List AV} {rows : List Row} {ctr low : Nat} {k : AV → St → Prop} (hpre : prP zs fs o a b) (h : k (.bool (decide ((lfL zs fs o a b).length ≤ 3))) ⟨env, rows, ctr + 1, low⟩) :
    CallB Try.prog 66 ⟨env, rows, ctr, low⟩ [.agg [.sl c zs.length (zs.map (.int .i64)), .sl d fs.length (fs.map (slI d)), .sl e o.length (o.map (.int .i64))], .int .i64 a, .int .i64 b] k := callS_in l5Narrow_sound ((c, zs, d, fs, e, o), a, b) hpre rfl h
theorem set_snoc {t : TypeId} {ss : List (List Int)} {xs : List Int} {u : AV} {n : Nat} (h : n = ss.length) : ((ss.map (ownI t)) ++ [u]).set n (ownI t xs) = (ss ++ [xs]).map (ownI t) := by
  subst h
  rw [List.set_append_right _ _ (by simp)]
  simp
set_option maxHeartbeats 16000000 in
theorem l5Merge_sound : Sound Try.prog 68 (fnIS (ι := IS × Int × Int) 3 22 (fun | ((c, zs, d, fs, e, o), a, b) => [.agg [.sl c zs.length (zs.map (.int .i64)), .sl d fs.length (fs.map (slI d)), .sl e o.length (o.map (.int .i64))], .int .i64 a, .int .i64 b]) (fun | ((_, zs, _, fs, _, o), a, b) => prP zs fs o a b) (fun | ((_, zs, _, fs, _, o), a, b) => mergeM zs fs o a b)) := by
  refine sound_of Try.func68 rfl (enters_of Try.func68 (by kernel_rfl) (by kernel_rfl)) ?_
  rintro ⟨⟨c, zs, d, fs, q, o⟩, a, b⟩ hpre
  have h : prP zs fs o a b := hpre
  obtain ⟨⟨hz, hf, hl⟩, ha, hb, ho⟩ := h
  have hmax : maxLen = 9223372036854775807 := rfl
  have h : prP zs fs o a b := hpre
  have hpl : (pairM zs fs o a b).2.2.length ≤ 5 := by
    have := lfTo_len fs o a b zs.length
    show (lfTo fs o a b zs.length).length ≤ 5
    omega
  conv => whnf
  repeat' (first
    | (refine plan_in (id := 7) [0, 1, 2, 3, 4, 5, 6, 7, 8, 9, 10, 11] (by kernel_rfl) (by kernel_rfl) ?_; conv => whnf)
    | (refine plan_in (id := 8) [0, 1, 2, 3, 4, 5, 6, 7, 8] (by kernel_rfl) (by kernel_rfl) ?_; conv => whnf)
    | (refine load_same ?_; conv => whnf)
    | (refine And.intro rfl (And.intro (List.cons_ne_nil _ _) ?_); conv => whnf)
    | (refine And.intro (Nat.le_of_ble_eq_true rfl) ?_; conv => whnf)
    | (refine callG_t ?_; conv => whnf)
    | (refine append_same ?_; conv => whnf)
    | (refine And.intro (pureL_ii _ _) ?_; conv => whnf)
    | (refine l5Pair_call (by assumption) ?_; conv => whnf)
    | (refine takeN_in ?_; conv => whnf)
    | (refine And.intro (pureL_ints _ _) ?_; conv => whnf)
    | (refine set_force ?_; conv => whnf)
    | (refine And.intro (by kernel_rfl) ?_; conv => whnf))
  refine share_in (id := 2) (.one 0 (.one 1 (.one 3 (.one 4 (.two 2 7 (.two 5 7 (.two 6 7 (.one 7 (.one 8 .nil)) (.one 6 (.one 8 .nil))) (.one 5 (.one 6 (.one 8 .nil)))) (.one 2 (.one 5 (.one 6 (.one 8 .nil))))))))) (⟨[.un, .int .i64 a, .int .i64 b, .ptr 0 1 0, .un, .un, .ptr 4 5 0, .ptr 11 10 0, .ptr 15 14 0, .un, .un, .un, .un, .un, .un, .un, .un, .un, .un, .un, .un, .un, .un, .un, .un, .un, .un, .un, .un, .un, .un, .un, .un, .un, .un, .un, .un, .un, .un, .un, .un, .un, .un, .un, .un, .un, .un, .un, .un, .un, .un, .un, .un, .un, .un, .un], [⟨1, 29, 3, [.sl c zs.length (zs.map (.int .i64)), .sl d fs.length (fs.map (slI d)), .sl q o.length (o.map (.int .i64))]⟩, ⟨2, 3, 1, []⟩, ⟨3, 22, 1, []⟩, ⟨4, 3, 1, []⟩, ⟨5, 29, 3, [.ref 1 2 0 0, .ref 2 3 0 0, .ref 3 4 0 0]⟩, ⟨6, 3, 1, (pairM zs fs o a b).1.map (.int .i64)⟩, ⟨6, 22, 1, (pairM zs fs o a b).2.1.map (ownI 3)⟩, ⟨6, 3, 1, (pairM zs fs o a b).2.2.map (.int .i64)⟩, ⟨7, 3, 1, []⟩, ⟨8, 22, 1, []⟩, ⟨9, 3, 1, []⟩, ⟨10, 29, 3, [.ref 5 6 0 (pairM zs fs o a b).1.length, .ref 6 6 0 (pairM zs fs o a b).2.1.length, .ref 7 6 0 (pairM zs fs o a b).2.2.length]⟩, ⟨11, 3, 1, zs.map (.int .i64)⟩, ⟨12, 3, 1, o.map (.int .i64)⟩, ⟨13, 22, 1, []⟩, ⟨14, 29, 3, [.ref 12 11 0 zs.length, .ref 14 13 0 0, .ref 13 12 0 o.length]⟩], 20, 0⟩) (by kernel_rfl) (by kernel_rfl) ?_ ?_
  · conv => whnf
    repeat' (first
      | (refine plan_in (id := 7) [0, 1, 2, 3, 4, 5, 6, 7, 8, 9, 10, 11] (by kernel_rfl) (by kernel_rfl) ?_; conv => whnf)
      | (refine plan_in (id := 8) [0, 1, 2, 3, 4, 5, 6, 7, 8] (by kernel_rfl) (by kernel_rfl) ?_; conv => whnf)
      | (refine append_same ?_; conv => whnf))
    refine loop_ut (ι := Nat) [false, true, true, true, false, false, true, true, true, true, false, false, false, false, false, false, false, false, false, false, false, false, false, false, false, false, false, false, false, false, false, false, false, false, false, false, false, false, false, false, false, false, false, false, false, false, false, false, false, false, false, false, false, false, false, false] (fun k => [(9, .int .i64 k)]) (fun k => [(14, (othTo fs a b k).map (ownI 3)), (15, [.ref 12 11 0 zs.length, .ref 14 13 0 (othTo fs a b k).length, .ref 13 12 0 o.length])]) (fun k => k ≤ fs.length) (fun k => fs.length - k) (0) (Nat.zero_le _) ?_ ?_
    · conv => whnf
      refine St.le.to ?_
      conv => whnf
      repeat' (first
        | exact trivial
        | exact rfl
        | exact pureL_ints _ _
        | exact Or.inl (And.intro rfl rfl)
        | exact le_ints rfl
        | exact pureL_ii _ _
        | exact Or.inl (And.intro (pureL_oi _ _) rfl)
        | refine Or.inr ?_
        | refine And.intro ?_ ?_
        | exact Nat.le_of_ble_eq_true rfl)
    · rintro k hk
      have hk : k ≤ fs.length := hk
      have hol := othTo_le fs a b k
      by_cases hlt : k < fs.length
      · have hlk := hl k hlt
        by_cases hc : (k : Int) ≠ a ∧ (k : Int) ≠ b
        · have e := othTo_t (fs := fs) hc
          have hc1 := hc.1
          have hc2 := hc.2
          conv => whnf
          repeat' (first
            | (refine plan_in (id := 7) [0, 1, 2, 3, 4, 5, 6, 7, 8, 9, 10, 11] (by kernel_rfl) (by kernel_rfl) ?_; conv => whnf)
            | (refine plan_in (id := 8) [0, 1, 2, 3, 4, 5, 6, 7, 8] (by kernel_rfl) (by kernel_rfl) ?_; conv => whnf)
            | (refine aIf_t ?_; conv => whnf)
            | (refine aIf_f ?_; conv => whnf)
            | (refine fun (_ : _ ≤ maxLen) => ?_; conv => whnf)
            | (refine aGet_in rfl ?_; conv => whnf)
            | (refine And.intro (by omega) ?_; conv => whnf)
            | (refine l2Nums_call (by omega) ?_; conv => whnf)
            | (refine append_same ?_; conv => whnf)
            | (refine get_ii_n (by omega) ?_; conv => whnf)
            | (refine And.intro (pureL_ints _ _) ?_; conv => whnf)
            | (refine cut_ints ?_; conv => whnf)
            | (refine And.intro (And.intro (by kernel_rfl) (And.intro rfl (Nat.le_of_ble_eq_true rfl))) ?_; conv => whnf)
            | refine aIf_eqt ?_
            | refine aIf_not ?_
            | (refine aIf_dec (fun _ => ?_) (fun _ => ?_) <;> conv => whnf))
          all_goals (first | (exfalso; omega) | contradiction | skip)
          refine append_ll rfl (by rw [List.length_map]) rfl rfl (by omega) (Nat.zero_le _) ?_
          conv => whnf
          repeat' (first
            | (refine plan_in (id := 7) [0, 1, 2, 3, 4, 5, 6, 7, 8, 9, 10, 11] (by kernel_rfl) (by kernel_rfl) ?_; conv => whnf)
            | (refine plan_in (id := 8) [0, 1, 2, 3, 4, 5, 6, 7, 8] (by kernel_rfl) (by kernel_rfl) ?_; conv => whnf)
            | (refine And.intro (Nat.le_of_ble_eq_true rfl) ?_; conv => whnf)
            | (refine append_same ?_; conv => whnf)
            | (refine set_force ?_; conv => whnf)
            | (refine And.intro (by kernel_rfl) ?_; conv => whnf))
          all_goals (first | (exfalso; omega) | contradiction | skip)
          refine next_ut (k + 1) (show fs.length - (k + 1) < fs.length - k by omega) (by exact (by omega : k + 1 ≤ fs.length)) ?_
          rw [e]
          conv => whnf
          refine to_close 14 (othTo fs a b k).length 16 _ _ 1 3 _ _ rfl ((List.getElem?_append_right (by rw [List.length_map]; omega)).trans (by rw [List.length_map, Nat.sub_self]; rfl)) rfl (by decide) (Nat.zero_le _) (by decide) (by simp) ?_
          refine St.le.to ?_
          conv => whnf
          repeat' (first | exact le_snoc4 | refine And.intro ?_ ?_)
          repeat' (first
            | exact trivial
            | exact rfl
            | exact pureL_ints _ _
            | exact Or.inl (And.intro rfl rfl)
            | exact le_ints rfl
            | exact pureL_ii _ _
            | exact Or.inl (And.intro (pureL_oi _ _) rfl)
            | refine Or.inr ?_
            | refine And.intro ?_ ?_
            | exact Nat.le_of_ble_eq_true rfl
            | exact List.length_append
            | exact int_eq (by rw [IntWalk.i64_in _ (by omega)] <;> omega))
        · have e := othTo_f (fs := fs) hc
          conv => whnf
          repeat' (first
            | (refine plan_in (id := 7) [0, 1, 2, 3, 4, 5, 6, 7, 8, 9, 10, 11] (by kernel_rfl) (by kernel_rfl) ?_; conv => whnf)
            | (refine plan_in (id := 8) [0, 1, 2, 3, 4, 5, 6, 7, 8] (by kernel_rfl) (by kernel_rfl) ?_; conv => whnf)
            | (refine aIf_t ?_; conv => whnf)
            | (refine aIf_f ?_; conv => whnf)
            | (refine fun (_ : _ ≤ maxLen) => ?_; conv => whnf)
            | (refine aGet_in rfl ?_; conv => whnf)
            | (refine And.intro (by omega) ?_; conv => whnf)
            | (refine l2Nums_call (by omega) ?_; conv => whnf)
            | (refine append_same ?_; conv => whnf)
            | (refine get_ii_n (by omega) ?_; conv => whnf)
            | (refine cut_ints ?_; conv => whnf)
            | refine aIf_eqt ?_
            | refine aIf_not ?_
            | (refine aIf_dec (fun _ => ?_) (fun _ => ?_) <;> conv => whnf))
          all_goals (first | (exfalso; omega) | contradiction | skip)
          · refine next_ut (k + 1) (show fs.length - (k + 1) < fs.length - k by omega) (by exact (by omega : k + 1 ≤ fs.length)) ?_
            rw [e]
            conv => whnf
            refine St.le.to ?_
            conv => whnf
            repeat' (first
              | exact trivial
              | exact rfl
              | exact pureL_ints _ _
              | exact Or.inl (And.intro rfl rfl)
              | exact le_ints rfl
              | exact pureL_ii _ _
              | exact Or.inl (And.intro (pureL_oi _ _) rfl)
              | refine Or.inr ?_
              | refine And.intro ?_ ?_
              | exact Nat.le_of_ble_eq_true rfl
              | exact int_eq (by rw [IntWalk.i64_in _ (by omega)] <;> omega))
          · refine next_ut (k + 1) (show fs.length - (k + 1) < fs.length - k by omega) (by exact (by omega : k + 1 ≤ fs.length)) ?_
            rw [e]
            conv => whnf
            refine St.le.to ?_
            conv => whnf
            repeat' (first
              | exact trivial
              | exact rfl
              | exact pureL_ints _ _
              | exact Or.inl (And.intro rfl rfl)
              | exact le_ints rfl
              | exact pureL_ii _ _
              | exact Or.inl (And.intro (pureL_oi _ _) rfl)
              | refine Or.inr ?_
              | refine And.intro ?_ ?_
              | exact Nat.le_of_ble_eq_true rfl
              | exact int_eq (by rw [IntWalk.i64_in _ (by omega)] <;> omega))
      · have he : k = fs.length := by omega
        subst he
        conv => whnf
        repeat' (first
          | (refine plan_in (id := 7) [0, 1, 2, 3, 4, 5, 6, 7, 8, 9, 10, 11] (by kernel_rfl) (by kernel_rfl) ?_; conv => whnf)
          | (refine plan_in (id := 8) [0, 1, 2, 3, 4, 5, 6, 7, 8] (by kernel_rfl) (by kernel_rfl) ?_; conv => whnf)
          | (refine aIf_t ?_; conv => whnf)
          | (refine aIf_f ?_; conv => whnf)
          | (refine fun (_ : _ ≤ maxLen) => ?_; conv => whnf)
          | (refine aGet_in rfl ?_; conv => whnf)
          | (refine And.intro (by omega) ?_; conv => whnf)
          | (refine l2Nums_call (by omega) ?_; conv => whnf)
          | (refine append_same ?_; conv => whnf)
          | (refine get_ii_n (by omega) ?_; conv => whnf)
          | (refine cut_ints ?_; conv => whnf)
          | (refine And.intro (And.intro (by kernel_rfl) (And.intro rfl (Nat.le_of_ble_eq_true rfl))) ?_; conv => whnf)
          | refine aIf_eqt ?_
          | refine aIf_not ?_
          | (refine aIf_dec (fun _ => ?_) (fun _ => ?_) <;> conv => whnf))
        all_goals (first | (exfalso; omega) | contradiction | skip)
        refine append_ll rfl (by rw [List.length_map]) rfl rfl (by omega) (Nat.zero_le _) ?_
        conv => whnf
        repeat' (first
          | (refine plan_in (id := 7) [0, 1, 2, 3, 4, 5, 6, 7, 8, 9, 10, 11] (by kernel_rfl) (by kernel_rfl) ?_; conv => whnf)
          | (refine plan_in (id := 8) [0, 1, 2, 3, 4, 5, 6, 7, 8] (by kernel_rfl) (by kernel_rfl) ?_; conv => whnf)
          | (refine load_same ?_; conv => whnf)
          | (refine And.intro (Nat.le_of_ble_eq_true rfl) ?_; conv => whnf)
          | (refine append_same ?_; conv => whnf)
          | (refine takeN_in ?_; conv => whnf)
          | (refine set_force ?_; conv => whnf)
          | (refine And.intro (by kernel_rfl) ?_; conv => whnf))
        refine ret_close 14 (othTo fs a b fs.length).length 16 _ _ 1 3 _ _ rfl ((List.getElem?_append_right (by rw [List.length_map]; omega)).trans (by rw [List.length_map, Nat.sub_self]; rfl)) rfl (by decide) (Nat.zero_le _) (by decide) (by simp) ?_
        exact retIS (M := mergeM zs fs o a b) rfl (by decide) (by decide) (by decide) rfl (congrArg (fun cs => some (Row.mk _ _ _ cs)) (set_snoc (xs := lfL zs fs o a b) rfl)) rfl rfl (by show (othTo fs a b fs.length).length + 1 = (othTo fs a b fs.length ++ [lfL zs fs o a b]).length; rw [List.length_append]; rfl) rfl
  · skip
    conv => whnf
    repeat' (first
      | (refine plan_in (id := 7) [0, 1, 2, 3, 4, 5, 6, 7, 8, 9, 10, 11] (by kernel_rfl) (by kernel_rfl) ?_; conv => whnf)
      | (refine plan_in (id := 8) [0, 1, 2, 3, 4, 5, 6, 7, 8] (by kernel_rfl) (by kernel_rfl) ?_; conv => whnf)
      | (refine fork_in ?_ ?_ <;> conv => whnf)
      | (refine aGet_in rfl ?_; conv => whnf)
      | (refine And.intro (Nat.le_of_ble_eq_true rfl) ?_; conv => whnf)
      | (refine l2Nums_call (by omega) ?_; conv => whnf)
      | (refine And.intro (pureL_ints _ _) ?_; conv => whnf)
      | (refine set_force ?_; conv => whnf)
      | (refine And.intro (by kernel_rfl) ?_; conv => whnf))
    · skip
      refine to_force [false, false, false, false, false, false, false, false, false, false, false, false, false, false, false, false, false, false, true] ?_
      conv => whnf
      refine to_swap 15 18 [false, false, false, false, false, false, false, false, false, false, false, false, false, false, false, true] _ _ rfl rfl (by decide) (Nat.zero_le _) (Nat.zero_le _) ?_
      refine to_force [false, false, false, false, false, false, false, false, false, false, false, false, false, false, false, true] ?_
      conv => whnf
      refine St.le.to ?_
      conv => whnf
      repeat' (first
        | exact trivial
        | exact rfl
        | exact pureL_ints _ _
        | exact Or.inl (And.intro rfl rfl)
        | exact le_ints rfl
        | exact pureL_ii _ _
        | exact Or.inl (And.intro (pureL_oi _ _) rfl)
        | refine Or.inr ?_
        | refine And.intro ?_ ?_
        | exact Nat.le_of_ble_eq_true rfl)
    · skip
      refine to_force [false, false, false, false, false, false, false, false, false, false, false, false, false, false, false, false, false, true] ?_
      conv => whnf
      refine to_swap 14 18 [false, false, false, false, false, false, false, false, false, false, false, false, false, false, false, false, false, true] _ _ rfl rfl (by decide) (Nat.zero_le _) (Nat.zero_le _) ?_
      refine to_force [false, false, false, false, false, false, false, false, false, false, false, false, false, false, false, false, false, true] ?_
      conv => whnf
      refine to_swap 15 17 [false, false, false, false, false, false, false, false, false, false, false, false, false, false, false, true] _ _ rfl rfl (by decide) (Nat.zero_le _) (Nat.zero_le _) ?_
      refine to_force [false, false, false, false, false, false, false, false, false, false, false, false, false, false, false, true] ?_
      conv => whnf
      refine St.le.to ?_
      conv => whnf
      repeat' (first
        | exact trivial
        | exact rfl
        | exact pureL_ints _ _
        | exact Or.inl (And.intro rfl rfl)
        | exact le_ints rfl
        | exact pureL_ii _ _
        | exact Or.inl (And.intro (pureL_oi _ _) rfl)
        | refine Or.inr ?_
        | refine And.intro ?_ ?_
        | exact Nat.le_of_ble_eq_true rfl)
    · skip
      refine to_force [false, false, false, false, false, false, false, false, false, false, false, false, false, false, false, false, true] ?_
      conv => whnf
      refine to_swap 13 17 [false, false, false, false, false, false, false, false, false, false, false, false, false, false, false, false, true] _ _ rfl rfl (by decide) (Nat.zero_le _) (Nat.zero_le _) ?_
      refine to_force [false, false, false, false, false, false, false, false, false, false, false, false, false, false, false, false, true] ?_
      conv => whnf
      refine to_swap 14 18 [false, false, false, false, false, false, false, false, false, false, false, false, false, false, false, false, true] _ _ rfl rfl (by decide) (Nat.zero_le _) (Nat.zero_le _) ?_
      refine to_force [false, false, false, false, false, false, false, false, false, false, false, false, false, false, false, false, true] ?_
      conv => whnf
      refine to_swap 15 16 [false, false, false, false, false, false, false, false, false, false, false, false, false, false, false, true] _ _ rfl rfl (by decide) (Nat.zero_le _) (Nat.zero_le _) ?_
      refine to_force [false, false, false, false, false, false, false, false, false, false, false, false, false, false, false, true] ?_
      conv => whnf
      refine St.le.to ?_
      conv => whnf
      repeat' (first
        | exact trivial
        | exact rfl
        | exact pureL_ints _ _
        | exact Or.inl (And.intro rfl rfl)
        | exact le_ints rfl
        | exact pureL_ii _ _
        | exact Or.inl (And.intro (pureL_oi _ _) rfl)
        | refine Or.inr ?_
        | refine And.intro ?_ ?_
        | exact Nat.le_of_ble_eq_true rfl)
    · skip
      refine to_force [false, false, false, false, false, false, false, false, false, false, false, false, false, false, false, true] ?_
      conv => whnf
      refine to_swap 12 16 [false, false, false, false, false, false, false, false, false, false, false, false, false, false, false, true] _ _ rfl rfl (by decide) (Nat.zero_le _) (Nat.zero_le _) ?_
      refine to_force [false, false, false, false, false, false, false, false, false, false, false, false, false, false, false, true] ?_
      conv => whnf
      refine to_swap 13 17 [false, false, false, false, false, false, false, false, false, false, false, false, false, false, false, true] _ _ rfl rfl (by decide) (Nat.zero_le _) (Nat.zero_le _) ?_
      refine to_force [false, false, false, false, false, false, false, false, false, false, false, false, false, false, false, true] ?_
      conv => whnf
      refine to_swap 14 18 [false, false, false, false, false, false, false, false, false, false, false, false, false, false, false, true] _ _ rfl rfl (by decide) (Nat.zero_le _) (Nat.zero_le _) ?_
      refine to_force [false, false, false, false, false, false, false, false, false, false, false, false, false, false, false, true] ?_
      conv => whnf
      refine St.le.to ?_
      conv => whnf
      repeat' (first
        | exact trivial
        | exact rfl
        | exact pureL_ints _ _
        | exact Or.inl (And.intro rfl rfl)
        | exact le_ints rfl
        | exact pureL_ii _ _
        | exact Or.inl (And.intro (pureL_oi _ _) rfl)
        | refine Or.inr ?_
        | refine And.intro ?_ ?_
        | exact Nat.le_of_ble_eq_true rfl)
end Go.Proofs.Ytmgggbgejdkamaa

/- Chapter 5: calls of l5Merge. -/
namespace Go.Proofs.Ytmgggbgejdkamaa
set_option maxRecDepth 20000
open Go.RowKit Go.Am
theorem l5Merge_call {c d e : Nat} {zs o : List Int} {fs : List (List Int)} {a b : Int} {env : List AV} {rows : List Row} {ctr low : Nat} {k : AV → St → Prop} (hpre : prP zs fs o a b) (h : k (.agg [.ref rows.length ctr 0 (mergeM zs fs o a b).1.length, .ref (rows.length + 1) ctr 0 (mergeM zs fs o a b).2.1.length, .ref (rows.length + 2) ctr 0 (mergeM zs fs o a b).2.2.length]) ⟨env, rows ++ [⟨ctr, 3, 1, (mergeM zs fs o a b).1.map (.int .i64)⟩, ⟨ctr, 22, 1, (mergeM zs fs o a b).2.1.map (ownI 3)⟩, ⟨ctr, 3, 1, (mergeM zs fs o a b).2.2.map (.int .i64)⟩], ctr + 1, low⟩) :
    CallB Try.prog 68 ⟨env, rows, ctr, low⟩ [.agg [.sl c zs.length (zs.map (.int .i64)), .sl d fs.length (fs.map (slI d)), .sl e o.length (o.map (.int .i64))], .int .i64 a, .int .i64 b] k := callIS_in l5Merge_sound ((c, zs, d, fs, e, o), a, b) hpre h
theorem l5Merge_callW {c d e : Nat} {zs o : List Int} {fs : List (List Int)} {a b : Int} {W : Sm} {env : List AV} {rows : List Row} {ctr low : Nat} {k : AV → St → Prop} (hpre : prP zs fs o a b) (hW : mergeM zs fs o a b = W) (h : k (.agg [.ref rows.length ctr 0 W.1.length, .ref (rows.length + 1) ctr 0 W.2.1.length, .ref (rows.length + 2) ctr 0 W.2.2.length]) ⟨env, rows ++ [⟨ctr, 3, 1, W.1.map (.int .i64)⟩, ⟨ctr, 22, 1, W.2.1.map (ownI 3)⟩, ⟨ctr, 3, 1, W.2.2.map (.int .i64)⟩], ctr + 1, low⟩) :
    CallB Try.prog 68 ⟨env, rows, ctr, low⟩ [.agg [.sl c zs.length (zs.map (.int .i64)), .sl d fs.length (fs.map (slI d)), .sl e o.length (o.map (.int .i64))], .int .i64 a, .int .i64 b] k := by
  subst hW
  exact callIS_in l5Merge_sound ((c, zs, d, fs, e, o), a, b) hpre h
theorem okP_pr {zs o : List Int} {fs : List (List Int)} {a b : Int} (h : okP zs fs o) (hr : (0 ≤ a ∧ a < fs.length) ∧ (0 ≤ b ∧ b < fs.length)) : prP zs fs o a b := ⟨⟨h.z5, h.f4, fun k hk => by have := (h.fl _ (mem_getD (d := ([] : List Int)) hk)).1; omega⟩, hr.1, hr.2, by have := h.ol.1; omega⟩
theorem okP_l5 {zs o : List Int} {fs : List (List Int)} (h : okP zs fs o) : l5P zs fs o := ⟨h.z5, h.f4, fun k hk => by
  have := h.fl _ (mem_getD (d := ([] : List Int)) hk)
  exact ⟨by have := this.1; omega, difP_in this.2⟩, by have := h.ol.1; omega, difP_in h.ol.2⟩
end Go.Proofs.Ytmgggbgejdkamaa
