import Derived.Test.YtmgggbgejdkamaaM1x1
/- Chapter 5: the greedy order, of the program. -/
namespace Go.Proofs.Ytmgggbgejdkamaa
set_option maxRecDepth 20000
open Go.RowKit Go.Am
set_option linter.unusedSimpArgs false
attribute [local irreducible] aPlan aGet aIf aLoop aCall RetB NextB CallB CallG aCut aSet aAppend
theorem chp_callW {c d e : Nat} {zs o z : List Int} {fs : List (List Int)} {b : Bool} {env : List AV} {rows : List Row} {ctr low : Nat} {k : AV → St → Prop} (hpre : sumP zs fs o) (hz : bst (zs, fs, o) = z) (hb : decide (z ≠ []) = b) (h : k (.tup [.ref rows.length ctr 0 z.length, .bool b]) ⟨env, rows ++ [⟨ctr, 3, 1, z.map (.int .i64)⟩], ctr + 1, low⟩) :
    CallB Try.prog 88 ⟨env, rows, ctr, low⟩ [.agg [.sl c zs.length (zs.map (.int .i64)), .sl d fs.length (fs.map (slI d)), .sl e o.length (o.map (.int .i64))]] k := by
  subst hz; subst hb
  exact callLB_in cheapestPair_sound (c, zs, d, fs, e, o) hpre h
theorem gl_len {S : Sm} {i : Nat} : (gL S (i + 1)).length = (gL S i).length + 1 := by simp [gL]
set_option maxHeartbeats 16000000 in
theorem iGreedy_sound : Sound Try.prog 48 sGreedy := by
  refine sound_of Try.func48 rfl (enters_of Try.func48 (by kernel_rfl) (by kernel_rfl)) ?_
  rintro ⟨c, zs, d, fs, q, o⟩ -
  have hmax : maxLen = 9223372036854775807 := rfl
  by_cases hs : sumP zs fs o
  · have hS : okS (zs, fs, o) := okP_of hs
    have h4 := hs.2.2.1
    have hw : IntKind.i64.wrap ((fs.length : Int) - 1) = fs.length - 1 := IntWalk.i64_in _ (by omega)
    conv => whnf
    repeat' (first
      | (refine plan_in (id := 10) [0, 1, 2, 3, 4, 5, 6, 7, 8, 9, 10, 11, 12] (by kernel_rfl) (by kernel_rfl) ?_; conv => whnf)
      | (refine fun (_ : _ ≤ maxLen) => ?_; conv => whnf)
      | (refine aGet_in rfl ?_; conv => whnf)
      | (refine load_same ?_; conv => whnf)
      | (refine And.intro rfl (And.intro (List.cons_ne_nil _ _) ?_); conv => whnf)
      | (refine And.intro (Nat.le_of_ble_eq_true rfl) ?_; conv => whnf)
      | (refine callG_t ?_; conv => whnf)
      | (refine append_same ?_; conv => whnf)
      | (refine And.intro (pureL_ii _ _) ?_; conv => whnf)
      | (refine iSumOk_call trivial ?_; conv => whnf)
      | (refine takeN_in ?_; conv => whnf)
      | (refine And.intro (pureL_ints _ _) ?_; conv => whnf)
      | (refine And.intro (And.intro (by kernel_rfl) (And.intro rfl (Nat.le_of_ble_eq_true rfl))) ?_; conv => whnf)
      | (refine And.intro (by kernel_rfl) ?_; conv => whnf)
      | refine aIf_not ?_
      | (refine aIf_dec (fun _ => ?_) (fun _ => ?_) <;> conv => whnf))
    all_goals (first | (exfalso; omega) | contradiction | skip)
    refine loop_to (ι := Nat × Bool) (fun | (i, true) => ⟨[.un, .ptr 0 1 0, .un, .un, .ref 2 4 0 (gL (zs, fs, o) i).length, .un, .un, .un, .un, .un, .un, .un, .un, .un, .int .i64 (IntKind.i64.wrap ((fs.length : Int) - 1)), .int .i64 i, .un, .un, .un, .un, .un, .un, .un, .un, .un, .un, .un, .un, .un, .un, .un, .un, .un, .un, .un, .un, .un, .un, .un, .un, .un, .un], [⟨1, 29, 3, [.sl c zs.length (zs.map (.int .i64)), .sl d fs.length (fs.map (slI d)), .sl q o.length (o.map (.int .i64))]⟩, ⟨2, 22, 1, []⟩, ⟨4, 22, 1, (gL (zs, fs, o) i).map (ownI 3)⟩], 9, 0⟩ | (i, false) => ⟨[.un, .ptr 0 1 0, .un, .un, .ref 2 4 0 (gL (zs, fs, o) i).length, .un, .un, .un, .un, .un, .un, .un, .un, .un, .int .i64 (IntKind.i64.wrap ((fs.length : Int) - 1)), .int .i64 i, .un, .un, .un, .un, .un, .un, .un, .un, .un, .un, .un, .un, .un, .un, .un, .un, .un, .un, .un, .un, .un, .un, .un, .un, .un, .un], [⟨1, 29, 3, [.ref 3 5 0 (own (gT (zs, fs, o) i)).1.length, .ref 4 6 0 (own (gT (zs, fs, o) i)).2.1.length, .ref 5 7 0 (own (gT (zs, fs, o) i)).2.2.length]⟩, ⟨2, 22, 1, []⟩, ⟨4, 22, 1, (gL (zs, fs, o) i).map (ownI 3)⟩, ⟨5, 3, 1, (own (gT (zs, fs, o) i)).1.map (.int .i64)⟩, ⟨6, 22, 1, (own (gT (zs, fs, o) i)).2.1.map (ownI 3)⟩, ⟨7, 3, 1, (own (gT (zs, fs, o) i)).2.2.map (.int .i64)⟩], 9, 0⟩) (fun x => x.1 < fs.length ∧ gP (zs, fs, o) x.1 ∧ (x.2 = true → x.1 = 0)) (fun x => fs.length - x.1) (0, true) ⟨by show 0 < fs.length; omega, gP_0 _, fun _ => rfl⟩ ?_ ?_
    · refine St.le.to ?_
      conv => whnf
      repeat' (first
        | exact trivial
        | exact rfl
        | exact pureL_ints _ _
        | exact Or.inl (And.intro rfl rfl)
        | exact pureL_ii _ _
        | refine Or.inr ?_
        | refine And.intro ?_ ?_
        | exact Nat.le_of_ble_eq_true rfl)
    · rintro ⟨i, first⟩ hi
      obtain ⟨hi, hP, hz⟩ := hi
      have hi : i < fs.length := hi
      have hP : gP (zs, fs, o) i := hP
      have hT := (gT_ok hS i hP).1
      have hgll := gL_len (zs, fs, o) i
      obtain ⟨z, hzz⟩ : ∃ z, bst (gT (zs, fs, o) i) = z := ⟨_, rfl⟩
      cases first with
      | true =>
        have e0 : gT (zs, fs, o) i = (zs, fs, o) := by rw [show i = 0 from hz rfl]; rfl
        have hsx : sumP zs fs o := hs
        have hbx : bst (zs, fs, o) = z := (congrArg bst e0).symm.trans hzz
        by_cases hlt : i + 1 < fs.length
        · by_cases hz0 : z = []
          · have hb : decide (z ≠ []) = false := decide_eq_false fun h => h hz0
            conv => whnf
            repeat' (first
              | (refine chp_callW hsx hbx hb ?_; conv => whnf)
              | (refine plan_in (id := 10) [0, 1, 2, 3, 4, 5, 6, 7, 8, 9, 10, 11, 12] (by kernel_rfl) (by kernel_rfl) ?_; conv => whnf)
              | (refine aIf_t ?_; conv => whnf)
              | (refine aGet_in rfl ?_; conv => whnf)
              | (refine load_same ?_; conv => whnf)
              | (refine And.intro (Nat.le_of_ble_eq_true rfl) ?_; conv => whnf)
              | (refine callG_t ?_; conv => whnf)
              | (refine append_same ?_; conv => whnf)
              | (refine And.intro (pureL_ii _ _) ?_; conv => whnf)
              | (refine takeN_in ?_; conv => whnf)
              | (refine And.intro (pureL_ints _ _) ?_; conv => whnf)
              | (refine And.intro (by kernel_rfl) ?_; conv => whnf)
              | (refine aIf_dec (fun _ => ?_) (fun _ => ?_) <;> conv => whnf))
            all_goals (first | (exfalso; omega) | contradiction | skip)
            exact retG (gr_f (S := (zs, fs, o)) fun h => h.2 i (by show i < fs.length - 1; omega) (hzz.trans hz0)) rfl rfl
          · have hb : decide (z ≠ []) = true := decide_eq_true hz0
            have hok : okPr (gT (zs, fs, o) i) z := by rw [← hzz]; exact bst_ok (by rw [hzz]; exact hz0)
            have hz2 : z.length = 2 := hok.1
            obtain ⟨W, hW⟩ : ∃ W, mgW (zs, fs, o) (z.getD (Int.toNat 0) 0) (z.getD (Int.toNat 1) 0) = W := ⟨_, rfl⟩
            obtain ⟨B, hB⟩ : ∃ B, mgB (zs, fs, o) (z.getD (Int.toNat 0) 0) (z.getD (Int.toNat 1) 0) = B := ⟨_, rfl⟩
            have hmg : mgP (zs, fs, o) (z.getD (Int.toNat 0) 0) (z.getD (Int.toNat 1) 0) := (mgP_pr0 hs hz2).2 (e0 ▸ hok)
            have hbb := decide_eq_true hmg
            obtain rfl : W = own (gT (zs, fs, o) (i + 1)) := hW.symm.trans ((mgW_t hmg).trans (by show _ = own (stp (gT (zs, fs, o) i) (bst (gT (zs, fs, o) i))); rw [hzz, e0]; rfl))
            have hgl : gL (zs, fs, o) (i + 1) = gL (zs, fs, o) i ++ [z] := by rw [← hzz]; rfl
            conv => whnf
            repeat' (first
              | (refine chp_callW hsx hbx hb ?_; conv => whnf)
              | (refine chp_callW hsx hbx hb ?_; conv => whnf)
              | (refine plan_in (id := 10) [0, 1, 2, 3, 4, 5, 6, 7, 8, 9, 10, 11, 12] (by kernel_rfl) (by kernel_rfl) ?_; conv => whnf)
              | (refine aIf_f ?_; conv => whnf)
              | (refine aGet_in rfl ?_; conv => whnf)
              | (refine load_same ?_; conv => whnf)
              | (refine And.intro (Nat.le_of_ble_eq_true rfl) ?_; conv => whnf)
              | (refine callG_t ?_; conv => whnf)
              | (refine append_same ?_; conv => whnf)
              | (refine And.intro (pureL_ii _ _) ?_; conv => whnf)
              | (refine takeN_in ?_; conv => whnf)
              | (refine And.intro (pureL_ints _ _) ?_; conv => whnf)
              | (refine And.intro (And.intro (by kernel_rfl) (And.intro rfl (Nat.le_of_ble_eq_true rfl))) ?_; conv => whnf)
              | (refine And.intro (by kernel_rfl) ?_; conv => whnf)
              | (refine aIf_dec (fun _ => ?_) (fun _ => ?_) <;> conv => whnf))
            all_goals (first | (exfalso; omega) | contradiction | skip)
            refine append_ll rfl (by rw [List.length_map]) rfl rfl (by omega) (Nat.zero_le _) ?_
            conv => whnf
            repeat' (first
              | (refine iMergeOf_callW hW hB hbb ?_; conv => whnf)
              | (refine plan_in (id := 10) [0, 1, 2, 3, 4, 5, 6, 7, 8, 9, 10, 11, 12] (by kernel_rfl) (by kernel_rfl) ?_; conv => whnf)
              | (refine get_int0 (by omega) ?_; conv => whnf)
              | (refine aGet_in rfl ?_; conv => whnf)
              | (refine And.intro (by omega) ?_; conv => whnf)
              | (refine load_same ?_; conv => whnf)
              | (refine And.intro (Nat.le_of_ble_eq_true rfl) ?_; conv => whnf)
              | (refine append_same ?_; conv => whnf)
              | (refine And.intro (pureL_ii _ _) ?_; conv => whnf)
              | (refine takeN_in ?_; conv => whnf)
              | (refine And.intro (pureL_ints _ _) ?_; conv => whnf)
              | (refine set_force ?_; conv => whnf)
              | (refine And.intro (by kernel_rfl) ?_; conv => whnf))
            all_goals (first | (exfalso; omega) | contradiction | skip)
            refine next_to (i + 1, false) (show fs.length - (i + 1) < fs.length - i by omega) ⟨(by omega : i + 1 < fs.length), gP_s hP (by rw [hzz]; exact hz0), fun h => Bool.noConfusion h⟩ ?_
            refine to_close 2 (gL (zs, fs, o) i).length 3 _ _ 1 3 _ _ rfl ((List.getElem?_append_right (by rw [List.length_map]; omega)).trans (by rw [List.length_map, Nat.sub_self]; rfl)) rfl (by decide) (Nat.zero_le _) (by decide) (by simp) ?_
            refine to_force [true] ?_
            conv => whnf
            refine to_swap 3 5 [true] _ _ rfl rfl (by decide) (Nat.zero_le _) (Nat.zero_le _) ?_
            refine to_force [true] ?_
            conv => whnf
            refine to_swap 4 6 [true] _ _ rfl rfl (by decide) (Nat.zero_le _) (Nat.zero_le _) ?_
            refine to_force [true] ?_
            conv => whnf
            refine to_swap 5 7 [true] _ _ rfl rfl (by decide) (Nat.zero_le _) (Nat.zero_le _) ?_
            refine to_force [true] ?_
            conv => whnf
            refine St.le.to ?_
            conv => whnf
            repeat' (first | exact le_snocQ (xs := z) hgl | exact gl_len | refine And.intro ?_ ?_)
            repeat' (first
              | exact trivial
              | exact rfl
              | exact Or.inl (And.intro rfl rfl)
              | exact le_ints rfl
              | exact Or.inl (And.intro (pureL_oi _ _) rfl)
              | refine Or.inr ?_
              | refine And.intro ?_ ?_
              | exact Nat.le_of_ble_eq_true rfl
              | exact int_eq (by rw [IntWalk.i64_in _ (by omega)] <;> omega))
        · have he : i = fs.length - 1 := by omega
          conv => whnf
          repeat' (first
            | (refine plan_in (id := 10) [0, 1, 2, 3, 4, 5, 6, 7, 8, 9, 10, 11, 12] (by kernel_rfl) (by kernel_rfl) ?_; conv => whnf)
            | (refine And.intro (by omega) ?_; conv => whnf)
            | (refine load_same ?_; conv => whnf)
            | (refine callG_t ?_; conv => whnf)
            | (refine append_same ?_; conv => whnf)
            | (refine takeN_in ?_; conv => whnf)
            | (refine aIf_dec (fun _ => ?_) (fun _ => ?_) <;> conv => whnf))
          all_goals (first | (exfalso; omega) | contradiction | skip)
          exact retG (by rw [he]; exact gr_t (S := (zs, fs, o)) ⟨hs, he ▸ hP⟩) rfl rfl
      | false =>
        have hsx : sumP (own (gT (zs, fs, o) i)).1 (own (gT (zs, fs, o) i)).2.1 (own (gT (zs, fs, o) i)).2.2 := own_sumP hT
        have hbx : bst (own (gT (zs, fs, o) i)) = z := (bst_own hT).trans hzz
        by_cases hlt : i + 1 < fs.length
        · by_cases hz0 : z = []
          · have hb : decide (z ≠ []) = false := decide_eq_false fun h => h hz0
            conv => whnf
            repeat' (first
              | (refine chp_callW hsx hbx hb ?_; conv => whnf)
              | (refine plan_in (id := 10) [0, 1, 2, 3, 4, 5, 6, 7, 8, 9, 10, 11, 12] (by kernel_rfl) (by kernel_rfl) ?_; conv => whnf)
              | (refine aIf_t ?_; conv => whnf)
              | (refine aGet_in rfl ?_; conv => whnf)
              | (refine load_same ?_; conv => whnf)
              | (refine And.intro (Nat.le_of_ble_eq_true rfl) ?_; conv => whnf)
              | (refine callG_t ?_; conv => whnf)
              | (refine append_same ?_; conv => whnf)
              | (refine cut_ii rfl ?_; conv => whnf)
              | (refine takeN_in ?_; conv => whnf)
              | (refine cut_ints ?_; conv => whnf)
              | (refine And.intro (by kernel_rfl) ?_; conv => whnf)
              | (refine aIf_dec (fun _ => ?_) (fun _ => ?_) <;> conv => whnf))
            all_goals (first | (exfalso; omega) | contradiction | skip)
            exact retG (gr_f (S := (zs, fs, o)) fun h => h.2 i (by show i < fs.length - 1; omega) (hzz.trans hz0)) rfl rfl
          · have hb : decide (z ≠ []) = true := decide_eq_true hz0
            have hok : okPr (gT (zs, fs, o) i) z := by rw [← hzz]; exact bst_ok (by rw [hzz]; exact hz0)
            have hz2 : z.length = 2 := hok.1
            obtain ⟨W, hW⟩ : ∃ W, mgW (own (gT (zs, fs, o) i)) (z.getD (Int.toNat 0) 0) (z.getD (Int.toNat 1) 0) = W := ⟨_, rfl⟩
            obtain ⟨B, hB⟩ : ∃ B, mgB (own (gT (zs, fs, o) i)) (z.getD (Int.toNat 0) 0) (z.getD (Int.toNat 1) 0) = B := ⟨_, rfl⟩
            have hmg : mgP (own (gT (zs, fs, o) i)) (z.getD (Int.toNat 0) 0) (z.getD (Int.toNat 1) 0) := (mgP_pr hT hz2).2 hok
            have hbb := decide_eq_true hmg
            obtain rfl : W = own (gT (zs, fs, o) (i + 1)) := hW.symm.trans ((mgW_t hmg).trans ((own_mrg hT ⟨hok.2.1.1, Int.le_trans hok.2.1.1 (Int.le_of_lt hok.2.1.2.1)⟩).trans (by show _ = own (stp (gT (zs, fs, o) i) (bst (gT (zs, fs, o) i))); rw [hzz]; rfl)))
            have hgl : gL (zs, fs, o) (i + 1) = gL (zs, fs, o) i ++ [z] := by rw [← hzz]; rfl
            conv => whnf
            repeat' (first
              | (refine chp_callW hsx hbx hb ?_; conv => whnf)
              | (refine chp_callW hsx hbx hb ?_; conv => whnf)
              | (refine plan_in (id := 10) [0, 1, 2, 3, 4, 5, 6, 7, 8, 9, 10, 11, 12] (by kernel_rfl) (by kernel_rfl) ?_; conv => whnf)
              | (refine aIf_f ?_; conv => whnf)
              | (refine aGet_in rfl ?_; conv => whnf)
              | (refine load_same ?_; conv => whnf)
              | (refine And.intro (Nat.le_of_ble_eq_true rfl) ?_; conv => whnf)
              | (refine callG_t ?_; conv => whnf)
              | (refine append_same ?_; conv => whnf)
              | (refine cut_ii rfl ?_; conv => whnf)
              | (refine takeN_in ?_; conv => whnf)
              | (refine cut_ints ?_; conv => whnf)
              | (refine And.intro (And.intro (by kernel_rfl) (And.intro rfl (Nat.le_of_ble_eq_true rfl))) ?_; conv => whnf)
              | (refine And.intro (by kernel_rfl) ?_; conv => whnf)
              | (refine aIf_dec (fun _ => ?_) (fun _ => ?_) <;> conv => whnf))
            all_goals (first | (exfalso; omega) | contradiction | skip)
            refine append_ll rfl (by rw [List.length_map]) rfl rfl (by omega) (Nat.zero_le _) ?_
            conv => whnf
            repeat' (first
              | (refine iMergeOf_callW hW hB hbb ?_; conv => whnf)
              | (refine plan_in (id := 10) [0, 1, 2, 3, 4, 5, 6, 7, 8, 9, 10, 11, 12] (by kernel_rfl) (by kernel_rfl) ?_; conv => whnf)
              | (refine get_int0 (by omega) ?_; conv => whnf)
              | (refine aGet_in rfl ?_; conv => whnf)
              | (refine And.intro (by omega) ?_; conv => whnf)
              | (refine load_same ?_; conv => whnf)
              | (refine And.intro (Nat.le_of_ble_eq_true rfl) ?_; conv => whnf)
              | (refine append_same ?_; conv => whnf)
              | (refine cut_ii rfl ?_; conv => whnf)
              | (refine takeN_in ?_; conv => whnf)
              | (refine cut_ints ?_; conv => whnf)
              | (refine set_force ?_; conv => whnf)
              | (refine And.intro (by kernel_rfl) ?_; conv => whnf))
            all_goals (first | (exfalso; omega) | contradiction | skip)
            refine next_to (i + 1, false) (show fs.length - (i + 1) < fs.length - i by omega) ⟨(by omega : i + 1 < fs.length), gP_s hP (by rw [hzz]; exact hz0), fun h => Bool.noConfusion h⟩ ?_
            refine to_close 2 (gL (zs, fs, o) i).length 6 _ _ 1 3 _ _ rfl ((List.getElem?_append_right (by rw [List.length_map]; omega)).trans (by rw [List.length_map, Nat.sub_self]; rfl)) rfl (by decide) (Nat.zero_le _) (by decide) (by simp) ?_
            refine to_force [true] ?_
            conv => whnf
            refine to_swap 3 8 [true] _ _ rfl rfl (by decide) (Nat.zero_le _) (Nat.zero_le _) ?_
            refine to_force [true] ?_
            conv => whnf
            refine to_swap 4 9 [true] _ _ rfl rfl (by decide) (Nat.zero_le _) (Nat.zero_le _) ?_
            refine to_force [true] ?_
            conv => whnf
            refine to_swap 5 10 [true] _ _ rfl rfl (by decide) (Nat.zero_le _) (Nat.zero_le _) ?_
            refine to_force [true] ?_
            conv => whnf
            refine St.le.to ?_
            conv => whnf
            repeat' (first | exact le_snocQ (xs := z) hgl | exact gl_len | refine And.intro ?_ ?_)
            repeat' (first
              | exact trivial
              | exact rfl
              | exact Or.inl (And.intro rfl rfl)
              | exact le_ints rfl
              | exact Or.inl (And.intro (pureL_oi _ _) rfl)
              | refine Or.inr ?_
              | refine And.intro ?_ ?_
              | exact Nat.le_of_ble_eq_true rfl
              | exact int_eq (by rw [IntWalk.i64_in _ (by omega)] <;> omega))
        · have he : i = fs.length - 1 := by omega
          conv => whnf
          repeat' (first
            | (refine plan_in (id := 10) [0, 1, 2, 3, 4, 5, 6, 7, 8, 9, 10, 11, 12] (by kernel_rfl) (by kernel_rfl) ?_; conv => whnf)
            | (refine And.intro (by omega) ?_; conv => whnf)
            | (refine load_same ?_; conv => whnf)
            | (refine callG_t ?_; conv => whnf)
            | (refine append_same ?_; conv => whnf)
            | (refine cut_ii rfl ?_; conv => whnf)
            | (refine takeN_in ?_; conv => whnf)
            | (refine cut_ints ?_; conv => whnf)
            | (refine aIf_dec (fun _ => ?_) (fun _ => ?_) <;> conv => whnf))
          all_goals (first | (exfalso; omega) | contradiction | skip)
          exact retG (by rw [he]; exact gr_t (S := (zs, fs, o)) ⟨hs, he ▸ hP⟩) rfl rfl
  · conv => whnf
    repeat' (first
      | (refine plan_in (id := 10) [0, 1, 2, 3, 4, 5, 6, 7, 8, 9, 10, 11, 12] (by kernel_rfl) (by kernel_rfl) ?_; conv => whnf)
      | (refine fun (_ : _ ≤ maxLen) => ?_; conv => whnf)
      | (refine aGet_in rfl ?_; conv => whnf)
      | (refine load_same ?_; conv => whnf)
      | (refine And.intro rfl (And.intro (List.cons_ne_nil _ _) ?_); conv => whnf)
      | (refine And.intro (Nat.le_of_ble_eq_true rfl) ?_; conv => whnf)
      | (refine callG_t ?_; conv => whnf)
      | (refine append_same ?_; conv => whnf)
      | (refine And.intro (pureL_ii _ _) ?_; conv => whnf)
      | (refine iSumOk_call trivial ?_; conv => whnf)
      | (refine takeN_in ?_; conv => whnf)
      | (refine And.intro (pureL_ints _ _) ?_; conv => whnf)
      | (refine And.intro (And.intro (by kernel_rfl) (And.intro rfl (Nat.le_of_ble_eq_true rfl))) ?_; conv => whnf)
      | (refine And.intro (by kernel_rfl) ?_; conv => whnf)
      | refine aIf_not ?_
      | (refine aIf_dec (fun _ => ?_) (fun _ => ?_) <;> conv => whnf))
    all_goals (first | (exfalso; omega) | contradiction | skip)
    exact retG (gr_f (S := (zs, fs, o)) fun h => hs h.1) rfl rfl
end Go.Proofs.Ytmgggbgejdkamaa
