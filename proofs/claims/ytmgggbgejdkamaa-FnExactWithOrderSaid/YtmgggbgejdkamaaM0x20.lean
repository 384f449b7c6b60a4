import Derived.Test.YtmgggbgejdkamaaM0x18
import Derived.Test.YtmgggbgejdkamaaM0x15
import Derived.Test.YtmgggbgejdkamaaM0x19
/- Chapter 4: copies of index sums. -/
namespace Go.Proofs.Ytmgggbgejdkamaa
set_option maxRecDepth 20000
open Go.RowKit Go.Am
set_option linter.unusedSimpArgs false
attribute [local irreducible] aPlan aGet aIf aLoop aCall RetB NextB CallB CallG aCut aSet aAppend
theorem take_snoc {fs : List (List Int)} {k : Nat} (h : k < fs.length) : fs.take (k + 1) = fs.take k ++ [fs.getD k []] := by
  rw [List.take_add_one, getD_eq (d := []) h]; rfl
theorem le_snoc4 {t : TypeId} {ss : List (List Int)} {xs : List Int} {u : AV} {p : Prop} : (pureL (((ss.map (ownI t)) ++ [u]).set ss.length (ownI t xs)) = true ∧ (ss ++ [xs]).map (ownI t) = ((ss.map (ownI t)) ++ [u]).set ss.length (ownI t xs)) ∨ p := by
  refine le_cells ?_ (pureL_oi _ _)
  rw [List.set_append_right _ _ (by simp)]
  simp
theorem le_snoc5 {t : TypeId} {fs : List (List Int)} {k : Nat} {u : AV} {p : Prop} (h : k < fs.length) : (pureL (((fs.take k).map (ownI t) ++ [u]).set k (ownI t (fs.getD k []))) = true ∧ (fs.take (k + 1)).map (ownI t) = ((fs.take k).map (ownI t) ++ [u]).set k (ownI t (fs.getD k []))) ∨ p := by
  have e : k = (fs.take k).length := by rw [List.length_take]; omega
  have := le_snoc4 (t := t) (ss := fs.take k) (xs := fs.getD k []) (u := u) (p := p)
  rw [← e] at this
  rwa [take_snoc h]
set_option maxHeartbeats 4000000 in
theorem l4Copy_sound : Sound Try.prog 97 (fnIS (ι := IS) 3 22 (fun | (c, zs, d, fs, e, o) => [.agg [.sl c zs.length (zs.map (.int .i64)), .sl d fs.length (fs.map (slI d)), .sl e o.length (o.map (.int .i64))]]) (fun | (_, zs, _, fs, _, o) => zs.length ≤ 5 ∧ o.length ≤ 3 ∧ fs.length ≤ 4 ∧ ∀ k, k < fs.length → (fs.getD k []).length ≤ 3) (fun | (_, zs, _, fs, _, o) => (zs, fs, o))) := by
  refine sound_of Try.func97 rfl (enters_of Try.func97 (by kernel_rfl) (by kernel_rfl)) ?_
  rintro ⟨c, zs, d, fs, e, o⟩ hpre
  obtain ⟨hz, ho, hf, hk⟩ : zs.length ≤ 5 ∧ o.length ≤ 3 ∧ fs.length ≤ 4 ∧ ∀ k, k < fs.length → (fs.getD k []).length ≤ 3 := hpre
  have hmax : maxLen = 9223372036854775807 := rfl
  conv => whnf
  repeat' (first
    | (refine tree_in (id := 1) (.one 0 (.one 1 (.one 3 (.one 4 (.two 2 7 (.two 5 7 (.two 6 7 (.one 7 (.one 8 .nil)) (.one 6 (.one 8 .nil))) (.one 5 (.one 6 (.one 8 .nil)))) (.one 2 (.one 5 (.one 6 (.one 8 .nil))))))))) (by kernel_rfl) (by kernel_rfl) ?_; conv => whnf)
    | (refine plan_in (id := 5) [0, 1, 2, 3, 4, 5, 6, 7, 8, 9, 10, 11] (by kernel_rfl) (by kernel_rfl) ?_; conv => whnf)
    | (refine fork_in ?_ ?_ <;> conv => whnf)
    | (refine aGet_in rfl ?_; conv => whnf)
    | (refine And.intro rfl (And.intro (List.cons_ne_nil _ _) ?_); conv => whnf)
    | (refine And.intro (Nat.le_of_ble_eq_true rfl) ?_; conv => whnf)
    | (refine l2Nums_call (by omega) ?_; conv => whnf)
    | (refine append_same ?_; conv => whnf)
    | (refine And.intro (pureL_ints _ _) ?_; conv => whnf)
    | (refine set_force ?_; conv => whnf)
    | (refine And.intro (by kernel_rfl) ?_; conv => whnf))
  · refine loop_ut (ι := Nat) [false, true, true, true, true, false, false, false, false, false, false, false, false, false, false, false, false, false, false, false, false, false, false, false, false, false, false, false, false, false, false] (fun k => [(4, .int .i64 k)]) (fun k => [(11, [.ref 5 6 0 zs.length, .ref 7 8 0 k, .ref 6 7 0 o.length]), (7, (fs.take k).map (ownI 3))]) (fun k => k ≤ fs.length) (fun k => fs.length - k) (0) (Nat.zero_le _) ?_ ?_
    · conv => whnf
      refine St.le.to ?_
      conv => whnf
      repeat' (first
        | exact trivial
        | exact rfl
        | exact pureL_ints _ _
        | exact Or.inl (And.intro rfl rfl)
        | exact le_ints rfl
        | exact pureL_ii _ _
        | refine Or.inr ?_
        | refine And.intro ?_ ?_
        | exact Nat.le_of_ble_eq_true rfl)
    · rintro k hk'
      have hk' : k ≤ fs.length := hk'
      have htl : (fs.take k).length = k := by rw [List.length_take]; omega
      by_cases hlt : k < fs.length
      · have h3 := hk k hlt
        conv => whnf
        repeat' (first
          | (refine tree_in (id := 1) (.one 0 (.one 1 (.one 3 (.one 4 (.two 2 7 (.two 5 7 (.two 6 7 (.one 7 (.one 8 .nil)) (.one 6 (.one 8 .nil))) (.one 5 (.one 6 (.one 8 .nil)))) (.one 2 (.one 5 (.one 6 (.one 8 .nil))))))))) (by kernel_rfl) (by kernel_rfl) ?_; conv => whnf)
          | (refine plan_in (id := 5) [0, 1, 2, 3, 4, 5, 6, 7, 8, 9, 10, 11] (by kernel_rfl) (by kernel_rfl) ?_; conv => whnf)
          | (refine fun (_ : _ ≤ maxLen) => ?_; conv => whnf)
          | (refine aGet_in rfl ?_; conv => whnf)
          | (refine And.intro (by omega) ?_; conv => whnf)
          | (refine load_same ?_; conv => whnf)
          | (refine l2Nums_call (by omega) ?_; conv => whnf)
          | (refine append_same ?_; conv => whnf)
          | (refine get_ii_n (by omega) ?_; conv => whnf)
          | (refine takeN_in ?_; conv => whnf)
          | (refine And.intro (pureL_ints _ _) ?_; conv => whnf)
          | (refine set_force ?_; conv => whnf)
          | (refine And.intro (And.intro (by kernel_rfl) (And.intro rfl (Nat.le_of_ble_eq_true rfl))) ?_; conv => whnf)
          | (refine aIf_dec (fun _ => ?_) (fun _ => ?_) <;> conv => whnf))
        all_goals (first | (exfalso; omega) | skip)
        refine append_ll rfl (by rw [List.length_map]; exact htl.symm) rfl rfl (by omega) (Nat.zero_le _) ?_
        conv => whnf
        repeat' (first
          | (refine tree_in (id := 1) (.one 0 (.one 1 (.one 3 (.one 4 (.two 2 7 (.two 5 7 (.two 6 7 (.one 7 (.one 8 .nil)) (.one 6 (.one 8 .nil))) (.one 5 (.one 6 (.one 8 .nil)))) (.one 2 (.one 5 (.one 6 (.one 8 .nil))))))))) (by kernel_rfl) (by kernel_rfl) ?_; conv => whnf)
          | (refine plan_in (id := 5) [0, 1, 2, 3, 4, 5, 6, 7, 8, 9, 10, 11] (by kernel_rfl) (by kernel_rfl) ?_; conv => whnf)
          | (refine And.intro (Nat.le_of_ble_eq_true rfl) ?_; conv => whnf)
          | (refine append_same ?_; conv => whnf)
          | (refine set_force ?_; conv => whnf)
          | (refine And.intro (by kernel_rfl) ?_; conv => whnf))
        refine next_ut (k + 1) (show fs.length - (k + 1) < fs.length - k by omega) (by exact (by omega : k + 1 ≤ fs.length)) ?_
        conv => whnf
        refine to_close 7 k 12 _ _ 1 3 _ _ rfl ((List.getElem?_append_right (by rw [List.length_map]; omega)).trans (by rw [List.length_map, htl, Nat.sub_self]; rfl)) rfl (by decide) (Nat.zero_le _) (by decide) (by simp) ?_
        refine St.le.to ?_
        conv => whnf
        repeat' (first | exact le_snoc5 hlt | refine And.intro ?_ ?_)
        repeat' (first
          | exact trivial
          | exact rfl
          | exact pureL_ints _ _
          | exact Or.inl (And.intro rfl rfl)
          | exact le_ints rfl
          | exact pureL_ii _ _
          | refine Or.inr ?_
          | refine And.intro ?_ ?_
          | exact Nat.le_of_ble_eq_true rfl
          | exact int_eq (by rw [IntWalk.i64_in _ (by omega)] <;> omega))
      · have he : k = fs.length := by omega
        conv => whnf
        repeat' (first
          | (refine tree_in (id := 1) (.one 0 (.one 1 (.one 3 (.one 4 (.two 2 7 (.two 5 7 (.two 6 7 (.one 7 (.one 8 .nil)) (.one 6 (.one 8 .nil))) (.one 5 (.one 6 (.one 8 .nil)))) (.one 2 (.one 5 (.one 6 (.one 8 .nil))))))))) (by kernel_rfl) (by kernel_rfl) ?_; conv => whnf)
          | (refine plan_in (id := 5) [0, 1, 2, 3, 4, 5, 6, 7, 8, 9, 10, 11] (by kernel_rfl) (by kernel_rfl) ?_; conv => whnf)
          | (refine fun (_ : _ ≤ maxLen) => ?_; conv => whnf)
          | (refine aGet_in rfl ?_; conv => whnf)
          | (refine And.intro (by omega) ?_; conv => whnf)
          | (refine load_same ?_; conv => whnf)
          | (refine And.intro (Nat.le_of_ble_eq_true rfl) ?_; conv => whnf)
          | (refine l2Nums_call (by omega) ?_; conv => whnf)
          | (refine append_same ?_; conv => whnf)
          | (refine get_ii_n (by omega) ?_; conv => whnf)
          | (refine takeN_in ?_; conv => whnf)
          | (refine set_force ?_; conv => whnf)
          | (refine And.intro (by kernel_rfl) ?_; conv => whnf)
          | (refine aIf_dec (fun _ => ?_) (fun _ => ?_) <;> conv => whnf))
        all_goals (first | (exfalso; omega) | skip)
        have et : fs.take k = fs := by rw [he, List.take_length]
        rw [et]
        exact retIS rfl (by decide) (by decide) (by decide) rfl rfl rfl rfl he rfl
  · refine loop_ut (ι := Nat) [false, true, true, true, true, false, false, false, false, false, false, false, false, false, false, false, false, false, false, false, false, false, false, false, false, false, false, false, false, false, false] (fun k => [(4, .int .i64 k)]) (fun k => [(10, [.ref 5 6 0 zs.length, .ref 11 12 0 k, .ref 6 7 0 o.length]), (11, (fs.take k).map (ownI 3))]) (fun k => k ≤ fs.length) (fun k => fs.length - k) (0) (Nat.zero_le _) ?_ ?_
    · conv => whnf
      refine St.le.to ?_
      conv => whnf
      repeat' (first
        | exact trivial
        | exact rfl
        | exact pureL_ints _ _
        | exact Or.inl (And.intro rfl rfl)
        | exact le_ints rfl
        | exact pureL_ii _ _
        | refine Or.inr ?_
        | refine And.intro ?_ ?_
        | exact Nat.le_of_ble_eq_true rfl)
    · rintro k hk'
      have hk' : k ≤ fs.length := hk'
      have htl : (fs.take k).length = k := by rw [List.length_take]; omega
      by_cases hlt : k < fs.length
      · have h3 := hk k hlt
        conv => whnf
        repeat' (first
          | (refine tree_in (id := 1) (.one 0 (.one 1 (.one 3 (.one 4 (.two 2 7 (.two 5 7 (.two 6 7 (.one 7 (.one 8 .nil)) (.one 6 (.one 8 .nil))) (.one 5 (.one 6 (.one 8 .nil)))) (.one 2 (.one 5 (.one 6 (.one 8 .nil))))))))) (by kernel_rfl) (by kernel_rfl) ?_; conv => whnf)
          | (refine plan_in (id := 5) [0, 1, 2, 3, 4, 5, 6, 7, 8, 9, 10, 11] (by kernel_rfl) (by kernel_rfl) ?_; conv => whnf)
          | (refine fun (_ : _ ≤ maxLen) => ?_; conv => whnf)
          | (refine aGet_in rfl ?_; conv => whnf)
          | (refine And.intro (by omega) ?_; conv => whnf)
          | (refine load_same ?_; conv => whnf)
          | (refine l2Nums_call (by omega) ?_; conv => whnf)
          | (refine append_same ?_; conv => whnf)
          | (refine get_ii_n (by omega) ?_; conv => whnf)
          | (refine takeN_in ?_; conv => whnf)
          | (refine And.intro (pureL_ints _ _) ?_; conv => whnf)
          | (refine set_force ?_; conv => whnf)
          | (refine And.intro (And.intro (by kernel_rfl) (And.intro rfl (Nat.le_of_ble_eq_true rfl))) ?_; conv => whnf)
          | (refine aIf_dec (fun _ => ?_) (fun _ => ?_) <;> conv => whnf))
        all_goals (first | (exfalso; omega) | skip)
        refine append_ll rfl (by rw [List.length_map]; exact htl.symm) rfl rfl (by omega) (Nat.zero_le _) ?_
        conv => whnf
        repeat' (first
          | (refine tree_in (id := 1) (.one 0 (.one 1 (.one 3 (.one 4 (.two 2 7 (.two 5 7 (.two 6 7 (.one 7 (.one 8 .nil)) (.one 6 (.one 8 .nil))) (.one 5 (.one 6 (.one 8 .nil)))) (.one 2 (.one 5 (.one 6 (.one 8 .nil))))))))) (by kernel_rfl) (by kernel_rfl) ?_; conv => whnf)
          | (refine plan_in (id := 5) [0, 1, 2, 3, 4, 5, 6, 7, 8, 9, 10, 11] (by kernel_rfl) (by kernel_rfl) ?_; conv => whnf)
          | (refine And.intro (Nat.le_of_ble_eq_true rfl) ?_; conv => whnf)
          | (refine append_same ?_; conv => whnf)
          | (refine set_force ?_; conv => whnf)
          | (refine And.intro (by kernel_rfl) ?_; conv => whnf))
        refine next_ut (k + 1) (show fs.length - (k + 1) < fs.length - k by omega) (by exact (by omega : k + 1 ≤ fs.length)) ?_
        conv => whnf
        refine to_close 11 k 12 _ _ 1 3 _ _ rfl ((List.getElem?_append_right (by rw [List.length_map]; omega)).trans (by rw [List.length_map, htl, Nat.sub_self]; rfl)) rfl (by decide) (Nat.zero_le _) (by decide) (by simp) ?_
        refine St.le.to ?_
        conv => whnf
        repeat' (first | exact le_snoc5 hlt | refine And.intro ?_ ?_)
        repeat' (first
          | exact trivial
          | exact rfl
          | exact pureL_ints _ _
          | exact Or.inl (And.intro rfl rfl)
          | exact le_ints rfl
          | exact pureL_ii _ _
          | refine Or.inr ?_
          | refine And.intro ?_ ?_
          | exact Nat.le_of_ble_eq_true rfl
          | exact int_eq (by rw [IntWalk.i64_in _ (by omega)] <;> omega))
      · have he : k = fs.length := by omega
        conv => whnf
        repeat' (first
          | (refine tree_in (id := 1) (.one 0 (.one 1 (.one 3 (.one 4 (.two 2 7 (.two 5 7 (.two 6 7 (.one 7 (.one 8 .nil)) (.one 6 (.one 8 .nil))) (.one 5 (.one 6 (.one 8 .nil)))) (.one 2 (.one 5 (.one 6 (.one 8 .nil))))))))) (by kernel_rfl) (by kernel_rfl) ?_; conv => whnf)
          | (refine plan_in (id := 5) [0, 1, 2, 3, 4, 5, 6, 7, 8, 9, 10, 11] (by kernel_rfl) (by kernel_rfl) ?_; conv => whnf)
          | (refine fun (_ : _ ≤ maxLen) => ?_; conv => whnf)
          | (refine aGet_in rfl ?_; conv => whnf)
          | (refine And.intro (by omega) ?_; conv => whnf)
          | (refine load_same ?_; conv => whnf)
          | (refine And.intro (Nat.le_of_ble_eq_true rfl) ?_; conv => whnf)
          | (refine l2Nums_call (by omega) ?_; conv => whnf)
          | (refine append_same ?_; conv => whnf)
          | (refine get_ii_n (by omega) ?_; conv => whnf)
          | (refine takeN_in ?_; conv => whnf)
          | (refine set_force ?_; conv => whnf)
          | (refine And.intro (by kernel_rfl) ?_; conv => whnf)
          | (refine aIf_dec (fun _ => ?_) (fun _ => ?_) <;> conv => whnf))
        all_goals (first | (exfalso; omega) | skip)
        have et : fs.take k = fs := by rw [he, List.take_length]
        rw [et]
        exact retIS rfl (by decide) (by decide) (by decide) rfl rfl rfl rfl he rfl
  · refine loop_ut (ι := Nat) [false, true, true, true, true, false, false, false, false, false, false, false, false, false, false, false, false, false, false, false, false, false, false, false, false, false, false, false, false, false, false] (fun k => [(4, .int .i64 k)]) (fun k => [(9, [.ref 5 6 0 zs.length, .ref 11 12 0 k, .ref 10 11 0 o.length]), (11, (fs.take k).map (ownI 3))]) (fun k => k ≤ fs.length) (fun k => fs.length - k) (0) (Nat.zero_le _) ?_ ?_
    · conv => whnf
      refine St.le.to ?_
      conv => whnf
      repeat' (first
        | exact trivial
        | exact rfl
        | exact pureL_ints _ _
        | exact Or.inl (And.intro rfl rfl)
        | exact le_ints rfl
        | exact pureL_ii _ _
        | refine Or.inr ?_
        | refine And.intro ?_ ?_
        | exact Nat.le_of_ble_eq_true rfl)
    · rintro k hk'
      have hk' : k ≤ fs.length := hk'
      have htl : (fs.take k).length = k := by rw [List.length_take]; omega
      by_cases hlt : k < fs.length
      · have h3 := hk k hlt
        conv => whnf
        repeat' (first
          | (refine tree_in (id := 1) (.one 0 (.one 1 (.one 3 (.one 4 (.two 2 7 (.two 5 7 (.two 6 7 (.one 7 (.one 8 .nil)) (.one 6 (.one 8 .nil))) (.one 5 (.one 6 (.one 8 .nil)))) (.one 2 (.one 5 (.one 6 (.one 8 .nil))))))))) (by kernel_rfl) (by kernel_rfl) ?_; conv => whnf)
          | (refine plan_in (id := 5) [0, 1, 2, 3, 4, 5, 6, 7, 8, 9, 10, 11] (by kernel_rfl) (by kernel_rfl) ?_; conv => whnf)
          | (refine fun (_ : _ ≤ maxLen) => ?_; conv => whnf)
          | (refine aGet_in rfl ?_; conv => whnf)
          | (refine And.intro (by omega) ?_; conv => whnf)
          | (refine load_same ?_; conv => whnf)
          | (refine l2Nums_call (by omega) ?_; conv => whnf)
          | (refine append_same ?_; conv => whnf)
          | (refine get_ii_n (by omega) ?_; conv => whnf)
          | (refine takeN_in ?_; conv => whnf)
          | (refine And.intro (pureL_ints _ _) ?_; conv => whnf)
          | (refine set_force ?_; conv => whnf)
          | (refine And.intro (And.intro (by kernel_rfl) (And.intro rfl (Nat.le_of_ble_eq_true rfl))) ?_; conv => whnf)
          | (refine aIf_dec (fun _ => ?_) (fun _ => ?_) <;> conv => whnf))
        all_goals (first | (exfalso; omega) | skip)
        refine append_ll rfl (by rw [List.length_map]; exact htl.symm) rfl rfl (by omega) (Nat.zero_le _) ?_
        conv => whnf
        repeat' (first
          | (refine tree_in (id := 1) (.one 0 (.one 1 (.one 3 (.one 4 (.two 2 7 (.two 5 7 (.two 6 7 (.one 7 (.one 8 .nil)) (.one 6 (.one 8 .nil))) (.one 5 (.one 6 (.one 8 .nil)))) (.one 2 (.one 5 (.one 6 (.one 8 .nil))))))))) (by kernel_rfl) (by kernel_rfl) ?_; conv => whnf)
          | (refine plan_in (id := 5) [0, 1, 2, 3, 4, 5, 6, 7, 8, 9, 10, 11] (by kernel_rfl) (by kernel_rfl) ?_; conv => whnf)
          | (refine And.intro (Nat.le_of_ble_eq_true rfl) ?_; conv => whnf)
          | (refine append_same ?_; conv => whnf)
          | (refine set_force ?_; conv => whnf)
          | (refine And.intro (by kernel_rfl) ?_; conv => whnf))
        refine next_ut (k + 1) (show fs.length - (k + 1) < fs.length - k by omega) (by exact (by omega : k + 1 ≤ fs.length)) ?_
        conv => whnf
        refine to_close 11 k 12 _ _ 1 3 _ _ rfl ((List.getElem?_append_right (by rw [List.length_map]; omega)).trans (by rw [List.length_map, htl, Nat.sub_self]; rfl)) rfl (by decide) (Nat.zero_le _) (by decide) (by simp) ?_
        refine St.le.to ?_
        conv => whnf
        repeat' (first | exact le_snoc5 hlt | refine And.intro ?_ ?_)
        repeat' (first
          | exact trivial
          | exact rfl
          | exact pureL_ints _ _
          | exact Or.inl (And.intro rfl rfl)
          | exact le_ints rfl
          | exact pureL_ii _ _
          | refine Or.inr ?_
          | refine And.intro ?_ ?_
          | exact Nat.le_of_ble_eq_true rfl
          | exact int_eq (by rw [IntWalk.i64_in _ (by omega)] <;> omega))
      · have he : k = fs.length := by omega
        conv => whnf
        repeat' (first
          | (refine tree_in (id := 1) (.one 0 (.one 1 (.one 3 (.one 4 (.two 2 7 (.two 5 7 (.two 6 7 (.one 7 (.one 8 .nil)) (.one 6 (.one 8 .nil))) (.one 5 (.one 6 (.one 8 .nil)))) (.one 2 (.one 5 (.one 6 (.one 8 .nil))))))))) (by kernel_rfl) (by kernel_rfl) ?_; conv => whnf)
          | (refine plan_in (id := 5) [0, 1, 2, 3, 4, 5, 6, 7, 8, 9, 10, 11] (by kernel_rfl) (by kernel_rfl) ?_; conv => whnf)
          | (refine fun (_ : _ ≤ maxLen) => ?_; conv => whnf)
          | (refine aGet_in rfl ?_; conv => whnf)
          | (refine And.intro (by omega) ?_; conv => whnf)
          | (refine load_same ?_; conv => whnf)
          | (refine And.intro (Nat.le_of_ble_eq_true rfl) ?_; conv => whnf)
          | (refine l2Nums_call (by omega) ?_; conv => whnf)
          | (refine append_same ?_; conv => whnf)
          | (refine get_ii_n (by omega) ?_; conv => whnf)
          | (refine takeN_in ?_; conv => whnf)
          | (refine set_force ?_; conv => whnf)
          | (refine And.intro (by kernel_rfl) ?_; conv => whnf)
          | (refine aIf_dec (fun _ => ?_) (fun _ => ?_) <;> conv => whnf))
        all_goals (first | (exfalso; omega) | skip)
        have et : fs.take k = fs := by rw [he, List.take_length]
        rw [et]
        exact retIS rfl (by decide) (by decide) (by decide) rfl rfl rfl rfl he rfl
  · refine loop_ut (ι := Nat) [false, true, true, true, true, false, false, false, false, false, false, false, false, false, false, false, false, false, false, false, false, false, false, false, false, false, false, false, false, false, false] (fun k => [(4, .int .i64 k)]) (fun k => [(8, [.ref 9 10 0 zs.length, .ref 11 12 0 k, .ref 10 11 0 o.length]), (11, (fs.take k).map (ownI 3))]) (fun k => k ≤ fs.length) (fun k => fs.length - k) (0) (Nat.zero_le _) ?_ ?_
    · conv => whnf
      refine St.le.to ?_
      conv => whnf
      repeat' (first
        | exact trivial
        | exact rfl
        | exact pureL_ints _ _
        | exact Or.inl (And.intro rfl rfl)
        | exact le_ints rfl
        | exact pureL_ii _ _
        | refine Or.inr ?_
        | refine And.intro ?_ ?_
        | exact Nat.le_of_ble_eq_true rfl)
    · rintro k hk'
      have hk' : k ≤ fs.length := hk'
      have htl : (fs.take k).length = k := by rw [List.length_take]; omega
      by_cases hlt : k < fs.length
      · have h3 := hk k hlt
        conv => whnf
        repeat' (first
          | (refine tree_in (id := 1) (.one 0 (.one 1 (.one 3 (.one 4 (.two 2 7 (.two 5 7 (.two 6 7 (.one 7 (.one 8 .nil)) (.one 6 (.one 8 .nil))) (.one 5 (.one 6 (.one 8 .nil)))) (.one 2 (.one 5 (.one 6 (.one 8 .nil))))))))) (by kernel_rfl) (by kernel_rfl) ?_; conv => whnf)
          | (refine plan_in (id := 5) [0, 1, 2, 3, 4, 5, 6, 7, 8, 9, 10, 11] (by kernel_rfl) (by kernel_rfl) ?_; conv => whnf)
          | (refine fun (_ : _ ≤ maxLen) => ?_; conv => whnf)
          | (refine aGet_in rfl ?_; conv => whnf)
          | (refine And.intro (by omega) ?_; conv => whnf)
          | (refine load_same ?_; conv => whnf)
          | (refine l2Nums_call (by omega) ?_; conv => whnf)
          | (refine append_same ?_; conv => whnf)
          | (refine get_ii_n (by omega) ?_; conv => whnf)
          | (refine takeN_in ?_; conv => whnf)
          | (refine And.intro (pureL_ints _ _) ?_; conv => whnf)
          | (refine set_force ?_; conv => whnf)
          | (refine And.intro (And.intro (by kernel_rfl) (And.intro rfl (Nat.le_of_ble_eq_true rfl))) ?_; conv => whnf)
          | (refine aIf_dec (fun _ => ?_) (fun _ => ?_) <;> conv => whnf))
        all_goals (first | (exfalso; omega) | skip)
        refine append_ll rfl (by rw [List.length_map]; exact htl.symm) rfl rfl (by omega) (Nat.zero_le _) ?_
        conv => whnf
        repeat' (first
          | (refine tree_in (id := 1) (.one 0 (.one 1 (.one 3 (.one 4 (.two 2 7 (.two 5 7 (.two 6 7 (.one 7 (.one 8 .nil)) (.one 6 (.one 8 .nil))) (.one 5 (.one 6 (.one 8 .nil)))) (.one 2 (.one 5 (.one 6 (.one 8 .nil))))))))) (by kernel_rfl) (by kernel_rfl) ?_; conv => whnf)
          | (refine plan_in (id := 5) [0, 1, 2, 3, 4, 5, 6, 7, 8, 9, 10, 11] (by kernel_rfl) (by kernel_rfl) ?_; conv => whnf)
          | (refine And.intro (Nat.le_of_ble_eq_true rfl) ?_; conv => whnf)
          | (refine append_same ?_; conv => whnf)
          | (refine set_force ?_; conv => whnf)
          | (refine And.intro (by kernel_rfl) ?_; conv => whnf))
        refine next_ut (k + 1) (show fs.length - (k + 1) < fs.length - k by omega) (by exact (by omega : k + 1 ≤ fs.length)) ?_
        conv => whnf
        refine to_close 11 k 12 _ _ 1 3 _ _ rfl ((List.getElem?_append_right (by rw [List.length_map]; omega)).trans (by rw [List.length_map, htl, Nat.sub_self]; rfl)) rfl (by decide) (Nat.zero_le _) (by decide) (by simp) ?_
        refine St.le.to ?_
        conv => whnf
        repeat' (first | exact le_snoc5 hlt | refine And.intro ?_ ?_)
        repeat' (first
          | exact trivial
          | exact rfl
          | exact pureL_ints _ _
          | exact Or.inl (And.intro rfl rfl)
          | exact le_ints rfl
          | exact pureL_ii _ _
          | refine Or.inr ?_
          | refine And.intro ?_ ?_
          | exact Nat.le_of_ble_eq_true rfl
          | exact int_eq (by rw [IntWalk.i64_in _ (by omega)] <;> omega))
      · have he : k = fs.length := by omega
        conv => whnf
        repeat' (first
          | (refine tree_in (id := 1) (.one 0 (.one 1 (.one 3 (.one 4 (.two 2 7 (.two 5 7 (.two 6 7 (.one 7 (.one 8 .nil)) (.one 6 (.one 8 .nil))) (.one 5 (.one 6 (.one 8 .nil)))) (.one 2 (.one 5 (.one 6 (.one 8 .nil))))))))) (by kernel_rfl) (by kernel_rfl) ?_; conv => whnf)
          | (refine plan_in (id := 5) [0, 1, 2, 3, 4, 5, 6, 7, 8, 9, 10, 11] (by kernel_rfl) (by kernel_rfl) ?_; conv => whnf)
          | (refine fun (_ : _ ≤ maxLen) => ?_; conv => whnf)
          | (refine aGet_in rfl ?_; conv => whnf)
          | (refine And.intro (by omega) ?_; conv => whnf)
          | (refine load_same ?_; conv => whnf)
          | (refine And.intro (Nat.le_of_ble_eq_true rfl) ?_; conv => whnf)
          | (refine l2Nums_call (by omega) ?_; conv => whnf)
          | (refine append_same ?_; conv => whnf)
          | (refine get_ii_n (by omega) ?_; conv => whnf)
          | (refine takeN_in ?_; conv => whnf)
          | (refine set_force ?_; conv => whnf)
          | (refine And.intro (by kernel_rfl) ?_; conv => whnf)
          | (refine aIf_dec (fun _ => ?_) (fun _ => ?_) <;> conv => whnf))
        all_goals (first | (exfalso; omega) | skip)
        have et : fs.take k = fs := by rw [he, List.take_length]
        rw [et]
        exact retIS rfl (by decide) (by decide) (by decide) rfl rfl rfl rfl he rfl
end Go.Proofs.Ytmgggbgejdkamaa

/- Chapter 4: WithOrder of the program. -/
namespace Go.Proofs.Ytmgggbgejdkamaa
set_option maxRecDepth 20000
open Go.RowKit Go.Am
set_option linter.unusedSimpArgs false
attribute [local irreducible] aPlan aGet aIf aLoop aCall RetB NextB CallB CallG aCut aSet aAppend
theorem l4Copy_call {c d e : Nat} {zs o : List Int} {fs : List (List Int)} {env : List AV} {rows : List Row} {ctr low : Nat} {k : AV → St → Prop} (hpre : zs.length ≤ 5 ∧ o.length ≤ 3 ∧ fs.length ≤ 4 ∧ ∀ k, k < fs.length → (fs.getD k []).length ≤ 3) (h : k (.agg [.ref rows.length ctr 0 zs.length, .ref (rows.length + 1) ctr 0 fs.length, .ref (rows.length + 2) ctr 0 o.length]) ⟨env, rows ++ [⟨ctr, 3, 1, zs.map (.int .i64)⟩, ⟨ctr, 22, 1, fs.map (ownI 3)⟩, ⟨ctr, 3, 1, o.map (.int .i64)⟩], ctr + 1, low⟩) :
    CallB Try.prog 97 ⟨env, rows, ctr, low⟩ [.agg [.sl c zs.length (zs.map (.int .i64)), .sl d fs.length (fs.map (slI d)), .sl e o.length (o.map (.int .i64))]] k := callIS_in l4Copy_sound (c, zs, d, fs, e, o) hpre h
theorem l4Each_sound : Sound Try.prog 96 (fnS (ι := Nat × List Int) (fun | (c, zs) => [.sl c zs.length (zs.map (.int .i64))]) (fun | (_, zs) => zs.length ≤ 1048576) (fun | (_, zs) => .bool (decide (difP zs zs.length)))) := by
  refine sound_of Try.func96 rfl (enters_of Try.func96 (by kernel_rfl) (by kernel_rfl)) ?_
  rintro ⟨c, zs⟩ hpre
  have hpre : zs.length ≤ 1048576 := hpre
  have hmax : maxLen = 9223372036854775807 := rfl
  conv => whnf
  repeat' (first
    | (refine plan_in (id := 4) [0, 1, 2, 3, 4, 5, 6, 7, 8, 9, 10, 11, 12, 13, 14, 15, 16, 17, 18] (by kernel_rfl) (by kernel_rfl) ?_; conv => whnf)
    | (refine append_same ?_; conv => whnf))
  refine loop_u (ι := Nat) [true, false, false, true, false, false, false, false, false, false, false, false, false, false, false, false, false, false, false, false, false, false, false, false, false, false, false, false, false] (fun k => [(3, .int .i64 k)]) (fun _ => []) (fun k => k ≤ zs.length ∧ difTo zs zs.length k) (fun k => zs.length - k) (0) ⟨Nat.zero_le _, fun i hi => absurd hi (Nat.not_lt_zero _)⟩ ?_ ?_
  · conv => whnf
    repeat' (first
      | exact trivial
      | exact rfl
      | exact pureL_ints _ _
      | refine And.intro ?_ ?_
      | exact Nat.le_of_ble_eq_true rfl)
  · rintro k ⟨hk, hno⟩
    have hk : k ≤ zs.length := hk
    have hno : difTo zs zs.length k := hno
    by_cases hlt : k < zs.length
    · have hw : IntKind.i64.wrap ((zs.length : Int) - 1) = zs.length - 1 := IntWalk.i64_in _ (by omega)
      by_cases hin : 0 ≤ zs.getD k 0 ∧ zs.getD k 0 < zs.length
      · have hin' : 0 ≤ zs.getD k 0 ∧ zs.getD k 0 ≤ IntKind.i64.wrap ((zs.length : Int) - 1) := by omega
        conv => whnf
        repeat' (first
          | (refine plan_in (id := 4) [0, 1, 2, 3, 4, 5, 6, 7, 8, 9, 10, 11, 12, 13, 14, 15, 16, 17, 18] (by kernel_rfl) (by kernel_rfl) ?_; conv => whnf)
          | (refine aIf_t ?_; conv => whnf)
          | (refine aIf_f ?_; conv => whnf)
          | (refine fun (_ : _ ≤ maxLen) => ?_; conv => whnf)
          | (refine get_nat (by omega) ?_; conv => whnf)
          | (refine And.intro (by omega) ?_; conv => whnf)
          | (refine And.intro (by rw [List.length_map]; omega) ?_; conv => whnf)
          | (refine append_same ?_; conv => whnf)
          | (refine And.intro (pureL_take _ _ _) ?_; conv => whnf)
          | (refine in_call ?_; conv => whnf)
          | refine aIf_eqf ?_
          | refine aIf_not ?_
          | (refine aIf_dec (fun _ => ?_) (fun _ => ?_) <;> conv => whnf))
        all_goals (first | (exfalso; omega) | contradiction | skip)
        refine l4Has_cut (zs := zs.take k) (by rw [Int.toNat_natCast, Nat.mul_one, List.map_take]) (by simp; omega) ?_
        by_cases hm : zs.getD k 0 ∈ zs.take k
        · conv => whnf
          repeat' (first
            | (refine plan_in (id := 4) [0, 1, 2, 3, 4, 5, 6, 7, 8, 9, 10, 11, 12, 13, 14, 15, 16, 17, 18] (by kernel_rfl) (by kernel_rfl) ?_; conv => whnf)
            | (refine aIf_f ?_; conv => whnf)
            | (refine append_same ?_; conv => whnf)
            | (refine aIf_dec (fun _ => ?_) (fun _ => ?_) <;> conv => whnf))
          all_goals (first | (exfalso; omega) | contradiction | skip)
          exact retS rfl (congrArg AV.bool (decide_eq_false fun (h : difP zs zs.length) => (h k hlt).2 hm).symm)
        · conv => whnf
          repeat' (first
            | (refine plan_in (id := 4) [0, 1, 2, 3, 4, 5, 6, 7, 8, 9, 10, 11, 12, 13, 14, 15, 16, 17, 18] (by kernel_rfl) (by kernel_rfl) ?_; conv => whnf)
            | (refine aIf_f ?_; conv => whnf)
            | (refine append_same ?_; conv => whnf)
            | (refine aIf_dec (fun _ => ?_) (fun _ => ?_) <;> conv => whnf))
          all_goals (first | (exfalso; omega) | contradiction | skip)
          refine next_u (k + 1) (show zs.length - (k + 1) < zs.length - k by omega) ⟨(by omega : k + 1 ≤ zs.length), difTo_succ.2 ⟨hno, hin, hm⟩⟩ ?_
          conv => whnf
          repeat' (first
            | exact trivial
            | exact rfl
            | exact pureL_ints _ _
            | refine And.intro ?_ ?_
            | exact Nat.le_of_ble_eq_true rfl
            | exact int_eq (by rw [IntWalk.i64_in _ (by omega)] <;> omega))
      · have hin' : ¬ (0 ≤ zs.getD k 0 ∧ zs.getD k 0 ≤ IntKind.i64.wrap ((zs.length : Int) - 1)) := by omega
        conv => whnf
        repeat' (first
          | (refine plan_in (id := 4) [0, 1, 2, 3, 4, 5, 6, 7, 8, 9, 10, 11, 12, 13, 14, 15, 16, 17, 18] (by kernel_rfl) (by kernel_rfl) ?_; conv => whnf)
          | (refine aIf_t ?_; conv => whnf)
          | (refine aIf_f ?_; conv => whnf)
          | (refine fun (_ : _ ≤ maxLen) => ?_; conv => whnf)
          | (refine get_nat (by omega) ?_; conv => whnf)
          | (refine And.intro (by omega) ?_; conv => whnf)
          | (refine append_same ?_; conv => whnf)
          | (refine in_call ?_; conv => whnf)
          | refine aIf_eqf ?_
          | refine aIf_not ?_
          | (refine aIf_dec (fun _ => ?_) (fun _ => ?_) <;> conv => whnf))
        all_goals (first | (exfalso; omega) | contradiction | skip)
        exact retS rfl (congrArg AV.bool (decide_eq_false fun (h : difP zs zs.length) => hin (h k hlt).1).symm)
    · have e : k = zs.length := by omega
      rw [e] at hno
      conv => whnf
      repeat' (first
        | (refine plan_in (id := 4) [0, 1, 2, 3, 4, 5, 6, 7, 8, 9, 10, 11, 12, 13, 14, 15, 16, 17, 18] (by kernel_rfl) (by kernel_rfl) ?_; conv => whnf)
        | (refine aIf_t ?_; conv => whnf)
        | (refine aIf_f ?_; conv => whnf)
        | (refine fun (_ : _ ≤ maxLen) => ?_; conv => whnf)
        | (refine get_nat (by omega) ?_; conv => whnf)
        | (refine And.intro (by omega) ?_; conv => whnf)
        | (refine append_same ?_; conv => whnf)
        | (refine in_call ?_; conv => whnf)
        | refine aIf_eqf ?_
        | refine aIf_not ?_
        | (refine aIf_dec (fun _ => ?_) (fun _ => ?_) <;> conv => whnf))
      all_goals (first | (exfalso; omega) | contradiction | skip)
      exact retS rfl (congrArg AV.bool (decide_eq_true (show difP zs zs.length from hno)).symm)
theorem l4Each_call {c : Nat} {zs : List Int} {env : List AV} {rows : List Row} {ctr low : Nat} {k : AV → St → Prop} (hpre : zs.length ≤ 1048576) (h : k (.bool (decide (difP zs zs.length))) ⟨env, rows, ctr + 1, low⟩) :
    CallB Try.prog 96 ⟨env, rows, ctr, low⟩ [.sl c zs.length (zs.map (.int .i64))] k := callS_in l4Each_sound (c, zs) hpre rfl h
def pk (fs : List (List Int)) (ax : List Int) : List (List Int) := ax.map fun a => fs.getD a.toNat []
theorem pk_length (fs : List (List Int)) (ax : List Int) : (pk fs ax).length = ax.length := by simp [pk]
theorem pk_getD {fs : List (List Int)} {ax : List Int} {j : Nat} (h : j < ax.length) : (pk fs ax).getD j [] = fs.getD (ax.getD j 0).toNat [] := by
  simp [pk, List.getD, List.getElem?_map, List.getElem?_eq_getElem h]
def woP (zs : List Int) (fs : List (List Int)) (o ax : List Int) : Prop := sumP zs fs o ∧ ax.length = fs.length ∧ difP ax fs.length
instance (zs : List Int) (fs : List (List Int)) (o ax : List Int) : Decidable (woP zs fs o ax) := by unfold woP; infer_instance
def woM (zs : List Int) (fs : List (List Int)) (o ax : List Int) : Sm := if woP zs fs o ax then (zs, pk fs ax, o) else ([], [], [])
theorem woM_t {zs : List Int} {fs : List (List Int)} {o ax : List Int} (h : woP zs fs o ax) : woM zs fs o ax = (zs, pk fs ax, o) := if_pos h
theorem woM_f {zs : List Int} {fs : List (List Int)} {o ax : List Int} (h : ¬ woP zs fs o ax) : woM zs fs o ax = ([], [], []) := if_neg h
def sWithOrder : CSpec := fnISB (ι := IS × Nat × List Int) 3 22 (fun | ((c, zs, d, fs, e, o), g, ax) => [.agg [.sl c zs.length (zs.map (.int .i64)), .sl d fs.length (fs.map (slI d)), .sl e o.length (o.map (.int .i64))], .sl g ax.length (ax.map (.int .i64))]) (fun _ => True) (fun | ((_, zs, _, fs, _, o), _, ax) => woM zs fs o ax) (fun | ((_, zs, _, fs, _, o), _, ax) => decide (woP zs fs o ax))
set_option maxHeartbeats 4000000 in
theorem iWithOrder_sound : Sound Try.prog 60 sWithOrder := by
  refine sound_of Try.func60 rfl (enters_of Try.func60 (by kernel_rfl) (by kernel_rfl)) ?_
  rintro ⟨⟨c, zs, d, fs, e, o⟩, g, ax⟩ -
  have hmax : maxLen = 9223372036854775807 := rfl
  have hd := difOk_dec ax fs.length
  by_cases h : sumP zs fs o
  · have h4 := h.2.2.1
    by_cases hl : ax.length = fs.length
    · by_cases hp : difP ax fs.length
      · have hdt : difOk ax fs.length = true := by rw [hd]; exact decide_eq_true hp
        have hin := difP_in hp
        have hls := fun (j : Nat) (hj : j < fs.length) => (lettersP_k h.2.2.2.2.1 hj).1
        have hz5 := h.1
        have ho3 := h.2.2.2.1.1
        conv => whnf
        repeat' (first
          | (refine plan_in (id := 9) [0, 1, 3, 4, 5, 2, 6, 7, 8, 9] (by kernel_rfl) (by kernel_rfl) ?_; conv => whnf)
          | (refine aIf_t ?_; conv => whnf)
          | (refine aIf_f ?_; conv => whnf)
          | (refine fun (_ : _ ≤ maxLen) => ?_; conv => whnf)
          | (refine aGet_in rfl ?_; conv => whnf)
          | (refine And.intro (by omega) ?_; conv => whnf)
          | (refine load_same ?_; conv => whnf)
          | (refine And.intro rfl (And.intro (List.cons_ne_nil _ _) ?_); conv => whnf)
          | (refine And.intro (Nat.le_of_ble_eq_true rfl) ?_; conv => whnf)
          | (refine callG_t ?_; conv => whnf)
          | (refine differentOk_call (by first | omega | assumption | (refine ⟨?_, ?_⟩ <;> first | assumption | omega) | (refine ⟨?_, ?_, ?_⟩ <;> first | assumption | omega)) ?_; conv => whnf)
          | (refine append_same ?_; conv => whnf)
          | (refine And.intro (pureL_ii _ _) ?_; conv => whnf)
          | (refine iSumOk_call trivial ?_; conv => whnf)
          | (refine And.intro (And.intro (Int.le_refl _) (And.intro (by kernel_rfl) (And.intro rfl (by kernel_rfl)))) (And.intro (And.intro (by omega) (And.intro (bytes_le (b := 24) rfl (by omega)) (by omega))) ?_); conv => whnf)
          | (refine takeN_in ?_; conv => whnf)
          | (refine And.intro (pureL_ints _ _) ?_; conv => whnf)
          | (refine set_force ?_; conv => whnf)
          | (refine And.intro (by kernel_rfl) ?_; conv => whnf)
          | (refine aIf_tt (by assumption) ?_; conv => whnf)
          | refine aIf_eqf ?_
          | refine aIf_not ?_
          | (refine aIf_dec (fun _ => ?_) (fun _ => ?_) <;> conv => whnf))
        all_goals (first | (exfalso; omega) | contradiction | skip)
        have hpl := pk_length fs ax
        refine loop_ut (ι := Nat) [false, false, true, false, true, false, true, false, false, false, false, false, false, false, false, false, false, false, false, false, false, false, false, false, false, false, false, false, false, false, false, false, true, true, true, false, false, false, false, false, false, false, false, false, false, false, false, false, false, false, false, false, false, false, false, false, false] (fun k => [(34, .int .i64 k)]) (fun k => [(5, fillC (ownI 3) (pk fs ax) k .nil)]) (fun k => k ≤ ax.length) (fun k => ax.length - k) (0) (Nat.zero_le _) ?_ ?_
        · conv => whnf
          refine St.le.to ?_
          conv => whnf
          repeat' (first | exact le_cells (show rep (ax.length : Int).toNat [AV.nil] = fillC (ownI 3) (pk fs ax) 0 .nil by simp [rep, fillC, pk_length]) (fillC_pure (ownI_pure _) rfl) | refine And.intro ?_ ?_)
          repeat' (first
            | exact trivial
            | exact rfl
            | exact pureL_ints _ _
            | exact Or.inl (And.intro rfl rfl)
            | exact pureL_ii _ _
            | refine Or.inr ?_
            | refine And.intro ?_ ?_
            | exact Nat.le_of_ble_eq_true rfl)
        · rintro k hk
          have hk : k ≤ ax.length := hk
          by_cases hlt : k < ax.length
          · have hi := hin k hlt
            have h3 := hls (ax.getD k 0).toNat (by omega)
            have hpk := pk_getD (fs := fs) hlt
            conv => whnf
            repeat' (first
              | (refine plan_in (id := 9) [0, 1, 3, 4, 5, 2, 6, 7, 8, 9] (by kernel_rfl) (by kernel_rfl) ?_; conv => whnf)
              | (refine get_nat (by omega) ?_; conv => whnf)
              | (refine aGet_in rfl ?_; conv => whnf)
              | (refine And.intro (by omega) ?_; conv => whnf)
              | (refine callG_t ?_; conv => whnf)
              | (refine copyNums_call (by omega) ?_; conv => whnf)
              | (refine append_same ?_; conv => whnf)
              | (refine get_ii (by omega) ?_; conv => whnf)
              | (refine And.intro rfl (And.intro rfl (And.intro (by rw [fillC_length (by omega)]; omega) ?_)); conv => whnf)
              | (refine set_fillC (by omega) (by omega) ?_; conv => whnf)
              | (refine takeN_in ?_; conv => whnf)
              | (refine And.intro (pureL_ints _ _) ?_; conv => whnf)
              | (refine set_force ?_; conv => whnf)
              | (refine aIf_dec (fun _ => ?_) (fun _ => ?_) <;> conv => whnf))
            all_goals (first | (exfalso; omega) | skip)
            refine next_ut (k + 1) (show ax.length - (k + 1) < ax.length - k by omega) (by exact (by omega : k + 1 ≤ ax.length)) ?_
            conv => whnf
            refine to_close 5 k 6 _ _ 1 3 _ _ rfl (get_fillC (by omega)) rfl (by decide) (Nat.zero_le _) (by decide) (by simp) ?_
            refine St.le.to ?_
            conv => whnf
            repeat' (first | exact le_closeC [] (by omega) (by rw [hpk]; rfl) (ownI_pure _) rfl | refine And.intro ?_ ?_)
            repeat' (first
              | exact trivial
              | exact rfl
              | exact pureL_ints _ _
              | exact Or.inl (And.intro rfl rfl)
              | exact pureL_ii _ _
              | refine Or.inr ?_
              | refine And.intro ?_ ?_
              | exact Nat.le_of_ble_eq_true rfl
              | exact int_eq (by rw [IntWalk.i64_in _ (by omega)] <;> omega))
          · have he : k = (pk fs ax).length := by omega
            have e := fillC_all (f := ownI 3) (l := pk fs ax) (k := k) (u := .nil) he
            conv => whnf
            repeat' (first
              | (refine plan_in (id := 9) [0, 1, 3, 4, 5, 2, 6, 7, 8, 9] (by kernel_rfl) (by kernel_rfl) ?_; conv => whnf)
              | (refine get_nat (by omega) ?_; conv => whnf)
              | (refine aGet_in rfl ?_; conv => whnf)
              | (refine And.intro (by omega) ?_; conv => whnf)
              | (refine And.intro (Nat.le_of_ble_eq_true rfl) ?_; conv => whnf)
              | (refine callG_t ?_; conv => whnf)
              | (refine copyNums_call (by omega) ?_; conv => whnf)
              | (refine append_same ?_; conv => whnf)
              | (refine get_ii_n (by omega) ?_; conv => whnf)
              | (refine set_fillC (by omega) (by omega) ?_; conv => whnf)
              | (refine takeN_in ?_; conv => whnf)
              | (refine And.intro (pureL_ints _ _) ?_; conv => whnf)
              | (refine set_force ?_; conv => whnf)
              | (refine And.intro (by kernel_rfl) ?_; conv => whnf)
              | (refine aIf_dec (fun _ => ?_) (fun _ => ?_) <;> conv => whnf))
            all_goals (first | (exfalso; omega) | skip)
            rw [e]
            exact retISB (woM_t ⟨h, hl, hp⟩) (decide_eq_true (show woP zs fs o ax from ⟨h, hl, hp⟩)).symm (by decide) (by decide) (by decide) rfl rfl rfl rfl (by rw [hpl]; rfl) rfl
      · have hdt : difOk ax fs.length = false := by rw [hd]; exact decide_eq_false hp
        have hn : ¬ woP zs fs o ax := fun h' => hp h'.2.2
        conv => whnf
        repeat' (first
          | (refine plan_in (id := 9) [0, 1, 3, 4, 5, 2, 6, 7, 8, 9] (by kernel_rfl) (by kernel_rfl) ?_; conv => whnf)
          | (refine aIf_t ?_; conv => whnf)
          | (refine aIf_f ?_; conv => whnf)
          | (refine fun (_ : _ ≤ maxLen) => ?_; conv => whnf)
          | (refine aGet_in rfl ?_; conv => whnf)
          | (refine And.intro (by omega) ?_; conv => whnf)
          | (refine load_same ?_; conv => whnf)
          | (refine And.intro rfl (And.intro (List.cons_ne_nil _ _) ?_); conv => whnf)
          | (refine And.intro (Nat.le_of_ble_eq_true rfl) ?_; conv => whnf)
          | (refine callG_t ?_; conv => whnf)
          | (refine differentOk_call (by first | omega | assumption | (refine ⟨?_, ?_⟩ <;> first | assumption | omega) | (refine ⟨?_, ?_, ?_⟩ <;> first | assumption | omega)) ?_; conv => whnf)
          | (refine append_same ?_; conv => whnf)
          | (refine And.intro (pureL_ii _ _) ?_; conv => whnf)
          | (refine iSumOk_call trivial ?_; conv => whnf)
          | (refine takeN_in ?_; conv => whnf)
          | (refine And.intro (pureL_ints _ _) ?_; conv => whnf)
          | (refine set_force ?_; conv => whnf)
          | (refine And.intro (by kernel_rfl) ?_; conv => whnf)
          | (refine aIf_ff (by assumption) ?_; conv => whnf)
          | refine aIf_eqf ?_
          | refine aIf_not ?_
          | (refine aIf_dec (fun _ => ?_) (fun _ => ?_) <;> conv => whnf))
        all_goals (first | (exfalso; omega) | contradiction | skip)
        exact retISB (woM_f hn) (decide_eq_false hn).symm (by decide) (by decide) (by decide) rfl rfl rfl rfl rfl rfl
    · have hn : ¬ woP zs fs o ax := fun h' => hl h'.2.1
      conv => whnf
      repeat' (first
        | (refine plan_in (id := 9) [0, 1, 3, 4, 5, 2, 6, 7, 8, 9] (by kernel_rfl) (by kernel_rfl) ?_; conv => whnf)
        | (refine aIf_t ?_; conv => whnf)
        | (refine aIf_f ?_; conv => whnf)
        | (refine fun (_ : _ ≤ maxLen) => ?_; conv => whnf)
        | (refine aGet_in rfl ?_; conv => whnf)
        | (refine And.intro (by omega) ?_; conv => whnf)
        | (refine load_same ?_; conv => whnf)
        | (refine And.intro rfl (And.intro (List.cons_ne_nil _ _) ?_); conv => whnf)
        | (refine And.intro (Nat.le_of_ble_eq_true rfl) ?_; conv => whnf)
        | (refine callG_t ?_; conv => whnf)
        | (refine differentOk_call (by first | omega | assumption | (refine ⟨?_, ?_⟩ <;> first | assumption | omega) | (refine ⟨?_, ?_, ?_⟩ <;> first | assumption | omega)) ?_; conv => whnf)
        | (refine append_same ?_; conv => whnf)
        | (refine And.intro (pureL_ii _ _) ?_; conv => whnf)
        | (refine iSumOk_call trivial ?_; conv => whnf)
        | (refine takeN_in ?_; conv => whnf)
        | (refine And.intro (pureL_ints _ _) ?_; conv => whnf)
        | (refine set_force ?_; conv => whnf)
        | (refine And.intro (by kernel_rfl) ?_; conv => whnf)
        | refine aIf_eqf ?_
        | refine aIf_not ?_
        | (refine aIf_dec (fun _ => ?_) (fun _ => ?_) <;> conv => whnf)
        | (refine aIf_in (fun _ => ?_) (fun _ => ?_) <;> conv => whnf))
      all_goals (first | (exfalso; omega) | contradiction | skip)
      exact retISB (woM_f hn) (decide_eq_false hn).symm (by decide) (by decide) (by decide) rfl rfl rfl rfl rfl rfl
  · have hn : ¬ woP zs fs o ax := fun h' => h h'.1
    conv => whnf
    repeat' (first
      | (refine plan_in (id := 9) [0, 1, 3, 4, 5, 2, 6, 7, 8, 9] (by kernel_rfl) (by kernel_rfl) ?_; conv => whnf)
      | (refine aIf_t ?_; conv => whnf)
      | (refine aIf_f ?_; conv => whnf)
      | (refine fun (_ : _ ≤ maxLen) => ?_; conv => whnf)
      | (refine aGet_in rfl ?_; conv => whnf)
      | (refine load_same ?_; conv => whnf)
      | (refine And.intro rfl (And.intro (List.cons_ne_nil _ _) ?_); conv => whnf)
      | (refine And.intro (Nat.le_of_ble_eq_true rfl) ?_; conv => whnf)
      | (refine callG_t ?_; conv => whnf)
      | (refine append_same ?_; conv => whnf)
      | (refine And.intro (pureL_ii _ _) ?_; conv => whnf)
      | (refine iSumOk_call trivial ?_; conv => whnf)
      | (refine takeN_in ?_; conv => whnf)
      | (refine And.intro (pureL_ints _ _) ?_; conv => whnf)
      | (refine set_force ?_; conv => whnf)
      | (refine And.intro (by kernel_rfl) ?_; conv => whnf)
      | refine aIf_eqf ?_
      | refine aIf_not ?_
      | (refine aIf_dec (fun _ => ?_) (fun _ => ?_) <;> conv => whnf))
    all_goals (first | contradiction | skip)
    exact retISB (woM_f hn) (decide_eq_false hn).symm (by decide) (by decide) (by decide) rfl rfl rfl rfl rfl rfl
end Go.Proofs.Ytmgggbgejdkamaa
