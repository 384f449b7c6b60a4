import Derived.Test.YtmgggbgejdkamaaM01x16
import Derived.Test.YtmgggbgejdkamaaM01x17
import Derived.Test.YtmgggbgejdkamaaM01x19
import Derived.Test.YtmgggbgejdkamaaM01x18
/- Chapter 5: letters numbered anew by the model. -/
namespace Go.Proofs.Ytmgggbgejdkamaa
set_option maxRecDepth 20000
open Go.RowKit Go.Am
set_option linter.unusedSimpArgs false
attribute [local irreducible] aPlan aGet aIf aLoop aCall RetB NextB CallB CallG aCut aSet aAppend
theorem l1TurnN_sound : Sound Try.prog 100 (fnL (ι := Nat × List Int × Nat × List Int) 3 (fun | (c, xs, d, ax) => [.sl c xs.length (xs.map (.int .i64)), .sl d ax.length (ax.map (.int .i64))]) (fun | (_, xs, _, ax) => ax.length ≤ 1000 ∧ ∀ k, k < ax.length → 0 ≤ ax.getD k 0 ∧ ax.getD k 0 < xs.length) (fun | (_, xs, _, ax) => turned xs ax)) := by
  refine sound_of Try.func100 rfl (enters_of Try.func100 (by kernel_rfl) (by kernel_rfl)) ?_
  rintro ⟨c, xs, d, ax⟩ hpre
  obtain ⟨h3, hin⟩ : ax.length ≤ 1000 ∧ ∀ k, k < ax.length → 0 ≤ ax.getD k 0 ∧ ax.getD k 0 < xs.length := hpre
  conv => whnf
  repeat' (first
    | (refine append_same ?_; conv => whnf)
    | (refine And.intro (And.intro (by kernel_rfl) (And.intro rfl (Nat.le_of_ble_eq_true rfl))) ?_; conv => whnf))
  refine loop_u (ι := Nat) [true, true, false, false, false, true, true, false, false, false, false, false, false, false, false, false, false, false, false, false, false, false, false, false, false] (fun k => [(5, .ref 1 2 0 k), (6, .int .i64 k)]) (fun k => [(1, ((turned xs ax).take k).map (.int .i64))]) (fun k => k ≤ ax.length) (fun k => ax.length - k) (0) (Nat.zero_le _) ?_ ?_
  · conv => whnf
    repeat' (first
      | exact trivial
      | exact rfl
      | exact pureL_ints _ _
      | exact Or.inl (And.intro rfl rfl)
      | refine And.intro ?_ ?_
      | exact Nat.le_of_ble_eq_true rfl)
  · intro k hk
    have hk : k ≤ ax.length := hk
    have hin := hin k
    conv => whnf
    repeat' (first
      | (refine fun (_ : _ ≤ maxLen) => ?_; conv => whnf)
      | (refine get_nat (by omega) ?_; conv => whnf)
      | (refine get_int (by omega) ?_; conv => whnf)
      | (refine And.intro (by omega) ?_; conv => whnf)
      | (refine append_same ?_; conv => whnf)
      | (refine append_int rfl rfl (by first | rfl | (simp only [List.length_take, turned_length]; omega)) (by omega) (Nat.le_of_ble_eq_true rfl) ?_; conv => whnf)
      | (refine And.intro (And.intro (by kernel_rfl) (And.intro rfl (Nat.le_of_ble_eq_true rfl))) ?_; conv => whnf)
      | (refine aIf_dec (fun _ => ?_) (fun _ => ?_) <;> conv => whnf))
    · have e := take_next (l := turned xs ax) (k := k) (by rw [turned_length]; omega)
      rw [turned_getD (by omega)] at e
      refine next_u (k + 1) (show ax.length - (k + 1) < ax.length - k by omega) (by exact (by omega : k + 1 ≤ ax.length)) ?_
      rw [← e]
      conv => whnf
      repeat' (first
        | exact trivial
        | exact rfl
        | exact pureL_ints _ _
        | exact Or.inl (And.intro rfl rfl)
        | exact le_ints rfl
        | refine And.intro ?_ ?_
        | exact Nat.le_of_ble_eq_true rfl
        | exact int_eq (by rw [IntWalk.i64_in _ (by omega)] <;> omega))
    · have e : k = ax.length := by omega
      subst e
      have e : (turned xs ax).take ax.length = turned xs ax := List.take_of_length_le (by rw [turned_length]; exact Nat.le_refl _)
      rw [e]
      exact retL rfl rfl rfl (turned_length xs ax).symm
theorem l1TurnN_call {c d : Nat} {xs ax : List Int} {env : List AV} {rows : List Row} {ctr low : Nat} {k : AV → St → Prop} (hpre : ax.length ≤ 1000 ∧ ∀ k, k < ax.length → 0 ≤ ax.getD k 0 ∧ ax.getD k 0 < xs.length) (hk : k (.ref rows.length ctr 0 (turned xs ax).length) ⟨env, rows ++ [⟨ctr, 3, 1, (turned xs ax).map (.int .i64)⟩], ctr + 1, low⟩) :
    CallB Try.prog 100 ⟨env, rows, ctr, low⟩ [.sl c xs.length (xs.map (.int .i64)), .sl d ax.length (ax.map (.int .i64))] k := callL_in l1TurnN_sound (c, xs, d, ax) hpre hk
theorem l1TurnN_calln {c d n : Nat} {xs ax : List Int} {env : List AV} {rows : List Row} {ctr low : Nat} {k : AV → St → Prop} (hn : n = xs.length) (hpre : ax.length ≤ 1000 ∧ ∀ k, k < ax.length → 0 ≤ ax.getD k 0 ∧ ax.getD k 0 < xs.length) (hk : k (.ref rows.length ctr 0 (turned xs ax).length) ⟨env, rows ++ [⟨ctr, 3, 1, (turned xs ax).map (.int .i64)⟩], ctr + 1, low⟩) :
    CallB Try.prog 100 ⟨env, rows, ctr, low⟩ [.sl c n (xs.map (.int .i64)), .sl d ax.length (ax.map (.int .i64))] k := by
  subst hn; exact l1TurnN_call hpre hk
theorem le_snoc6 {t : TypeId} {fs : List (List Int)} {k : Nat} {xs : List Int} {u : AV} {p : Prop} (h : k < fs.length) (e : fs.getD k [] = xs) : (pureL (((fs.take k).map (ownI t) ++ [u]).set k (ownI t xs)) = true ∧ (fs.take (k + 1)).map (ownI t) = ((fs.take k).map (ownI t) ++ [u]).set k (ownI t xs)) ∨ p := by
  subst e; exact le_snoc5 h
def l5P (zs : List Int) (fs : List (List Int)) (o : List Int) : Prop := zs.length ≤ 5 ∧ fs.length ≤ 4 ∧ (∀ k, k < fs.length → (fs.getD k []).length ≤ 1000 ∧ ∀ j, j < (fs.getD k []).length → 0 ≤ (fs.getD k []).getD j 0 ∧ (fs.getD k []).getD j 0 < zs.length) ∧ (o.length ≤ 1000 ∧ ∀ j, j < o.length → 0 ≤ o.getD j 0 ∧ o.getD j 0 < zs.length)
set_option maxHeartbeats 4000000 in
theorem l5Own_sound : Sound Try.prog 69 (fnIS (ι := IS) 3 22 (fun | (c, zs, d, fs, e, o) => [.agg [.sl c zs.length (zs.map (.int .i64)), .sl d fs.length (fs.map (slI d)), .sl e o.length (o.map (.int .i64))]]) (fun | (_, zs, _, fs, _, o) => l5P zs fs o) (fun | (_, zs, _, fs, _, o) => ownM zs fs o)) := by
  refine sound_of Try.func69 rfl (enters_of Try.func69 (by kernel_rfl) (by kernel_rfl)) ?_
  rintro ⟨c, zs, d, fs, q, o⟩ hpre
  obtain ⟨hz, hf, hl, ho⟩ : l5P zs fs o := hpre
  have hmax : maxLen = 9223372036854775807 := rfl
  have ht0 : ∀ k, (toTo fs zs.length k).length = zs.length := fun k => toTo_length _ _ k
  have ho' : o.length ≤ 1000 ∧ ∀ j, j < o.length → 0 ≤ o.getD j 0 ∧ o.getD j 0 < (toTo fs zs.length zs.length).length := by rw [ht0]; exact ho
  conv => whnf
  repeat' (first
    | (refine plan_in (id := 8) [0, 1, 2, 3, 4, 5, 6, 7, 8, 9, 10] (by kernel_rfl) (by kernel_rfl) ?_; conv => whnf)
    | (refine plan_in (id := 12) [0, 1, 2, 3, 4, 5, 6, 7, 8, 9, 10, 11, 12] (by kernel_rfl) (by kernel_rfl) ?_; conv => whnf)
    | (refine fun (_ : _ ≤ maxLen) => ?_; conv => whnf)
    | (refine aGet_in rfl ?_; conv => whnf)
    | (refine And.intro (And.intro (Int.le_refl _) (And.intro (by kernel_rfl) (And.intro rfl (by kernel_rfl)))) (And.intro (And.intro (by omega) (And.intro (bytes_le (b := 8) rfl (by omega)) (by omega))) ?_); conv => whnf)
    | (refine And.intro rfl (And.intro (List.cons_ne_nil _ _) ?_); conv => whnf)
    | (refine And.intro (Nat.le_of_ble_eq_true rfl) ?_; conv => whnf)
    | (refine append_same ?_; conv => whnf)
    | (refine set_force ?_; conv => whnf)
    | (refine And.intro (by kernel_rfl) ?_; conv => whnf))
  all_goals (first | (exfalso; omega) | contradiction | skip)
  refine loop_u (ι := Nat) [false, true, true, true, true, true, false, false, false, false, false, false, false, false, false, false, false, false, false, false, false, false, false, false, false, false, false, false, false, false, false, false, false, false, false, false, false, false, false, false, false, false, false, false, false, false, false, false, false, false, false, false, false, false, false, false, false, false, false, false, false, false, false] (fun k => [(5, .int .i64 k)]) (fun k => [(5, (toTo fs zs.length k).map (.int .i64)), (6, (ownZ zs fs k).map (.int .i64)), (12, [.ref 6 7 0 (ownZ zs fs k).length, .ref 7 8 0 0, .ref 8 9 0 0])]) (fun k => k ≤ zs.length) (fun k => zs.length - k) (0) (Nat.zero_le _) ?_ ?_
  · have e0 : rep (zs.length : Int).toNat [AV.int .i64 0] = (toTo fs zs.length 0).map (.int .i64) := by rw [rep_ints]; rfl
    conv => whnf
    repeat' (first | exact le_ints e0 | refine And.intro ?_ ?_)
    repeat' (first
      | exact trivial
      | exact rfl
      | exact pureL_ints _ _
      | exact Or.inl (And.intro rfl rfl)
      | exact pureL_ii _ _
      | refine Or.inr ?_
      | refine And.intro ?_ ?_
      | exact Nat.le_of_ble_eq_true rfl)
  · rintro k hk
    have hk : k ≤ zs.length := hk
    have hol := ownZ_length zs fs k
    have hrl := rk_le fs k
    have htl := ht0 k
    by_cases hlt : k < zs.length
    · by_cases hu : usedP fs k
      · have e1 := ownZ_t (zs := zs) hu
        have e2 := toTo_t (n := zs.length) hu
        rw [← hol] at e2
        conv => whnf
        repeat' (first
          | (refine plan_in (id := 8) [0, 1, 2, 3, 4, 5, 6, 7, 8, 9, 10] (by kernel_rfl) (by kernel_rfl) ?_; conv => whnf)
          | (refine plan_in (id := 12) [0, 1, 2, 3, 4, 5, 6, 7, 8, 9, 10, 11, 12] (by kernel_rfl) (by kernel_rfl) ?_; conv => whnf)
          | (refine fun (_ : _ ≤ maxLen) => ?_; conv => whnf)
          | (refine get_nat (by omega) ?_; conv => whnf)
          | (refine aGet_in rfl ?_; conv => whnf)
          | (refine And.intro (by omega) ?_; conv => whnf)
          | (refine load_same ?_; conv => whnf)
          | (refine And.intro (Nat.le_of_ble_eq_true rfl) ?_; conv => whnf)
          | (refine callG_t ?_; conv => whnf)
          | (refine append_same ?_; conv => whnf)
          | (refine And.intro (pureL_ii _ _) ?_; conv => whnf)
          | (refine l4Used_call trivial ?_; conv => whnf)
          | (refine takeN_in ?_; conv => whnf)
          | (refine And.intro (pureL_ints _ _) ?_; conv => whnf)
          | (refine append_int rfl rfl (by first | rfl | (simp only [List.length_take, turned_length]; omega)) (by omega) (Nat.le_of_ble_eq_true rfl) ?_; conv => whnf)
          | (refine And.intro rfl (And.intro rfl (And.intro (by first | omega | (rw [List.length_map]; omega)) ?_)); conv => whnf)
          | (refine set_nat ?_ (by omega); conv => whnf)
          | (refine set_force ?_; conv => whnf)
          | (refine And.intro (And.intro (by kernel_rfl) (And.intro rfl (Nat.le_of_ble_eq_true rfl))) ?_; conv => whnf)
          | (refine And.intro (by kernel_rfl) ?_; conv => whnf)
          | (refine aIf_dec (fun _ => ?_) (fun _ => ?_) <;> conv => whnf))
        all_goals (first | (exfalso; omega) | contradiction | skip)
        refine next_u (k + 1) (show zs.length - (k + 1) < zs.length - k by omega) (by exact (by omega : k + 1 ≤ zs.length)) ?_
        rw [e1, e2]
        conv => whnf
        repeat' (first
          | exact trivial
          | exact rfl
          | exact pureL_ints _ _
          | exact Or.inl (And.intro rfl rfl)
          | exact le_ints rfl
          | exact pureL_ii _ _
          | refine Or.inr ?_
          | refine And.intro ?_ ?_
          | exact Nat.le_of_ble_eq_true rfl
          | exact List.length_append
          | exact int_eq (by rw [IntWalk.i64_in _ (by omega)] <;> omega))
      · have e1 := ownZ_f (zs := zs) hu
        have e2 := toTo_f (n := zs.length) hu
        conv => whnf
        repeat' (first
          | (refine plan_in (id := 8) [0, 1, 2, 3, 4, 5, 6, 7, 8, 9, 10] (by kernel_rfl) (by kernel_rfl) ?_; conv => whnf)
          | (refine plan_in (id := 12) [0, 1, 2, 3, 4, 5, 6, 7, 8, 9, 10, 11, 12] (by kernel_rfl) (by kernel_rfl) ?_; conv => whnf)
          | (refine fun (_ : _ ≤ maxLen) => ?_; conv => whnf)
          | (refine get_nat (by omega) ?_; conv => whnf)
          | (refine aGet_in rfl ?_; conv => whnf)
          | (refine And.intro (by omega) ?_; conv => whnf)
          | (refine load_same ?_; conv => whnf)
          | (refine And.intro (Nat.le_of_ble_eq_true rfl) ?_; conv => whnf)
          | (refine callG_t ?_; conv => whnf)
          | (refine append_same ?_; conv => whnf)
          | (refine And.intro (pureL_ii _ _) ?_; conv => whnf)
          | (refine l4Used_call trivial ?_; conv => whnf)
          | (refine takeN_in ?_; conv => whnf)
          | (refine And.intro (pureL_ints _ _) ?_; conv => whnf)
          | (refine append_int rfl rfl (by first | rfl | (simp only [List.length_take, turned_length]; omega)) (by omega) (Nat.le_of_ble_eq_true rfl) ?_; conv => whnf)
          | (refine And.intro rfl (And.intro rfl (And.intro (by first | omega | (rw [List.length_map]; omega)) ?_)); conv => whnf)
          | (refine set_nat ?_ (by omega); conv => whnf)
          | (refine set_force ?_; conv => whnf)
          | (refine And.intro (And.intro (by kernel_rfl) (And.intro rfl (Nat.le_of_ble_eq_true rfl))) ?_; conv => whnf)
          | (refine And.intro (by kernel_rfl) ?_; conv => whnf)
          | (refine aIf_dec (fun _ => ?_) (fun _ => ?_) <;> conv => whnf))
        all_goals (first | (exfalso; omega) | contradiction | skip)
        refine next_u (k + 1) (show zs.length - (k + 1) < zs.length - k by omega) (by exact (by omega : k + 1 ≤ zs.length)) ?_
        rw [e1, e2]
        conv => whnf
        repeat' (first
          | exact trivial
          | exact rfl
          | exact pureL_ints _ _
          | exact Or.inl (And.intro rfl rfl)
          | exact le_ints rfl
          | exact pureL_ii _ _
          | refine Or.inr ?_
          | refine And.intro ?_ ?_
          | exact Nat.le_of_ble_eq_true rfl
          | exact int_eq (by rw [IntWalk.i64_in _ (by omega)] <;> omega))
    · have he : k = zs.length := by omega
      subst he
      have hLl : (fs.map (turned (toTo fs zs.length zs.length))).length = fs.length := List.length_map _
      have hLk : ∀ k, (fs.map (turned (toTo fs zs.length zs.length))).getD k [] = turned (toTo fs zs.length zs.length) (fs.getD k []) := fun k => getD_mapL rfl _ _
      conv => whnf
      repeat' (first
        | (refine plan_in (id := 8) [0, 1, 2, 3, 4, 5, 6, 7, 8, 9, 10] (by kernel_rfl) (by kernel_rfl) ?_; conv => whnf)
        | (refine plan_in (id := 12) [0, 1, 2, 3, 4, 5, 6, 7, 8, 9, 10, 11, 12] (by kernel_rfl) (by kernel_rfl) ?_; conv => whnf)
        | (refine fun (_ : _ ≤ maxLen) => ?_; conv => whnf)
        | (refine get_nat (by omega) ?_; conv => whnf)
        | (refine aGet_in rfl ?_; conv => whnf)
        | (refine And.intro (by omega) ?_; conv => whnf)
        | (refine load_same ?_; conv => whnf)
        | (refine callG_t ?_; conv => whnf)
        | (refine append_same ?_; conv => whnf)
        | (refine l4Used_call trivial ?_; conv => whnf)
        | (refine takeN_in ?_; conv => whnf)
        | (refine append_int rfl rfl (by first | rfl | (simp only [List.length_take, turned_length]; omega)) (by omega) (Nat.le_of_ble_eq_true rfl) ?_; conv => whnf)
        | (refine set_nat ?_ (by omega); conv => whnf)
        | (refine set_force ?_; conv => whnf)
        | (refine aIf_dec (fun _ => ?_) (fun _ => ?_) <;> conv => whnf))
      all_goals (first | (exfalso; omega) | contradiction | skip)
      refine loop_ut (ι := Nat) [false, true, true, true, true, false, true, false, false, false, false, false, false, false, false, false, false, false, false, false, false, false, false, false, false, false, false, false, false, false, false, false, false, false, false, false, false, false, false, false, false, false, false, false, false, false, false, false, false, false, false, false, false, false, false, false, false, false, false, false, false, false, false] (fun k => [(6, .int .i64 k)]) (fun k => [(7, ((fs.map (turned (toTo fs zs.length zs.length))).take k).map (ownI 3)), (12, [.ref 6 7 0 (ownZ zs fs zs.length).length, .ref 7 8 0 k, .ref 8 9 0 0])]) (fun k => k ≤ fs.length) (fun k => fs.length - k) (0) (Nat.zero_le _) ?_ ?_
      · conv => whnf
        refine St.le.to ?_
        conv => whnf
        repeat' (first
          | exact trivial
          | exact rfl
          | exact pureL_ints _ _
          | exact Or.inl (And.intro rfl rfl)
          | exact le_ints rfl
          | exact pureL_ii _ _
          | refine Or.inr ?_
          | refine And.intro ?_ ?_
          | exact Nat.le_of_ble_eq_true rfl)
      · rintro k hk
        have hk : k ≤ fs.length := hk
        have htk : ((fs.map (turned (toTo fs zs.length zs.length))).take k).length = k := by rw [List.length_take]; omega
        by_cases hlt : k < fs.length
        · have hpk := hLk k
          obtain ⟨i1, i2⟩ := hl k hlt
          have hpp : (fs.getD k []).length ≤ 1000 ∧ ∀ j, j < (fs.getD k []).length → 0 ≤ (fs.getD k []).getD j 0 ∧ (fs.getD k []).getD j 0 < (toTo fs zs.length zs.length).length := ⟨i1, by rw [htl]; exact i2⟩
          conv => whnf
          repeat' (first
            | (refine plan_in (id := 8) [0, 1, 2, 3, 4, 5, 6, 7, 8, 9, 10] (by kernel_rfl) (by kernel_rfl) ?_; conv => whnf)
            | (refine plan_in (id := 12) [0, 1, 2, 3, 4, 5, 6, 7, 8, 9, 10, 11, 12] (by kernel_rfl) (by kernel_rfl) ?_; conv => whnf)
            | (refine fun (_ : _ ≤ maxLen) => ?_; conv => whnf)
            | (refine aGet_in rfl ?_; conv => whnf)
            | (refine And.intro (by omega) ?_; conv => whnf)
            | (refine load_same ?_; conv => whnf)
            | (refine callG_t ?_; conv => whnf)
            | (refine append_same ?_; conv => whnf)
            | (refine get_ii_n (by omega) ?_; conv => whnf)
            | (refine l1TurnN_calln (by omega) (by assumption) ?_; conv => whnf)
            | (refine takeN_in ?_; conv => whnf)
            | (refine And.intro (pureL_ints _ _) ?_; conv => whnf)
            | (refine cut_all (by simp only [List.length_map]; omega) (scalL_ints _ _) ?_; conv => whnf)
            | (refine set_force ?_; conv => whnf)
            | (refine And.intro (And.intro (by kernel_rfl) (And.intro rfl (Nat.le_of_ble_eq_true rfl))) ?_; conv => whnf)
            | (refine aIf_dec (fun _ => ?_) (fun _ => ?_) <;> conv => whnf))
          all_goals (first | (exfalso; omega) | skip)
          refine append_ll rfl (by rw [List.length_map]; exact htk.symm) rfl rfl (by omega) (Nat.zero_le _) ?_
          conv => whnf
          repeat' (first
            | (refine plan_in (id := 8) [0, 1, 2, 3, 4, 5, 6, 7, 8, 9, 10] (by kernel_rfl) (by kernel_rfl) ?_; conv => whnf)
            | (refine plan_in (id := 12) [0, 1, 2, 3, 4, 5, 6, 7, 8, 9, 10, 11, 12] (by kernel_rfl) (by kernel_rfl) ?_; conv => whnf)
            | (refine And.intro (Nat.le_of_ble_eq_true rfl) ?_; conv => whnf)
            | (refine append_same ?_; conv => whnf)
            | (refine set_force ?_; conv => whnf)
            | (refine And.intro (by kernel_rfl) ?_; conv => whnf))
          refine next_ut (k + 1) (show fs.length - (k + 1) < fs.length - k by omega) (by exact (by omega : k + 1 ≤ fs.length)) ?_
          conv => whnf
          refine to_close 7 k 13 _ _ 1 3 _ _ rfl ((List.getElem?_append_right (by rw [List.length_map]; omega)).trans (by rw [List.length_map, htk, Nat.sub_self]; rfl)) rfl (by decide) (Nat.zero_le _) (by decide) (by simp) ?_
          refine St.le.to ?_
          conv => whnf
          repeat' (first | exact le_snoc6 (by omega) hpk | refine And.intro ?_ ?_)
          repeat' (first
            | exact trivial
            | exact rfl
            | exact pureL_ints _ _
            | exact Or.inl (And.intro rfl rfl)
            | exact le_ints rfl
            | exact pureL_ii _ _
            | refine Or.inr ?_
            | refine And.intro ?_ ?_
            | exact Nat.le_of_ble_eq_true rfl
            | exact int_eq (by rw [IntWalk.i64_in _ (by omega)] <;> omega))
        · have he : k = (fs.map (turned (toTo fs zs.length zs.length))).length := by omega
          have et : (fs.map (turned (toTo fs zs.length zs.length))).take k = fs.map (turned (toTo fs zs.length zs.length)) := List.take_of_length_le (by omega)
          rw [et]
          conv => whnf
          repeat' (first
            | (refine plan_in (id := 8) [0, 1, 2, 3, 4, 5, 6, 7, 8, 9, 10] (by kernel_rfl) (by kernel_rfl) ?_; conv => whnf)
            | (refine plan_in (id := 12) [0, 1, 2, 3, 4, 5, 6, 7, 8, 9, 10, 11, 12] (by kernel_rfl) (by kernel_rfl) ?_; conv => whnf)
            | (refine fun (_ : _ ≤ maxLen) => ?_; conv => whnf)
            | (refine aGet_in rfl ?_; conv => whnf)
            | (refine And.intro (by omega) ?_; conv => whnf)
            | (refine load_same ?_; conv => whnf)
            | (refine And.intro (Nat.le_of_ble_eq_true rfl) ?_; conv => whnf)
            | (refine callG_t ?_; conv => whnf)
            | (refine append_same ?_; conv => whnf)
            | (refine get_ii_n (by omega) ?_; conv => whnf)
            | (refine l1TurnN_calln (by omega) (by assumption) ?_; conv => whnf)
            | (refine takeN_in ?_; conv => whnf)
            | (refine And.intro (pureL_ints _ _) ?_; conv => whnf)
            | (refine cut_all (by simp only [List.length_map]; omega) (scalL_ints _ _) ?_; conv => whnf)
            | (refine set_force ?_; conv => whnf)
            | (refine And.intro (by kernel_rfl) ?_; conv => whnf)
            | (refine aIf_dec (fun _ => ?_) (fun _ => ?_) <;> conv => whnf))
          all_goals (first | (exfalso; omega) | skip)
          exact retIS rfl (by decide) (by decide) (by decide) rfl rfl rfl rfl he rfl
end Go.Proofs.Ytmgggbgejdkamaa
