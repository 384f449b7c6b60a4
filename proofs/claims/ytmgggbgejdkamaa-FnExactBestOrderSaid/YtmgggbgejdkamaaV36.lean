import Derived.Test.YtmgggbgejdkamaaM01x22
import Derived.Test.YtmgggbgejdkamaaV34
/- Chapter 5: all orders, of the program. -/
namespace Go.Proofs.Ytmgggbgejdkamaa
set_option maxRecDepth 20000
open Go.RowKit Go.Am
set_option linter.unusedSimpArgs false
attribute [local irreducible] aPlan aGet aIf aLoop aCall RetB NextB CallB CallG aCut aSet aAppend
def sOrs (m : Nat) : CSpec := fnR (ι := IS) 23 1 (fun | (c, zs, d, fs, e, o) => [.agg [.sl c zs.length (zs.map (.int .i64)), .sl d fs.length (fs.map (slI d)), .sl e o.length (o.map (.int .i64))]]) (fun | (_, zs, _, fs, _, o) => sumP zs fs o → fs.length = m) (fun | (_, zs, _, fs, _, o) => (orM m (zs, fs, o)).length) (fun | (_, zs, _, fs, _, o) => (orM m (zs, fs, o)).map (own2 3 22))
theorem orders_callW {m c d e : Nat} {zs o : List Int} {fs : List (List Int)} {L : L3} {env : List AV} {rows : List Row} {ctr low : Nat} {k : AV → St → Prop} (hs : Sound Try.prog 40 (sOrs m)) (hpre : sumP zs fs o → fs.length = m) (hL : orM m (zs, fs, o) = L) (h : k (.ref rows.length ctr 0 L.length) ⟨env, rows ++ [⟨ctr, 23, 1, unk3 3 22 L 0⟩], ctr + 1, low⟩) :
    CallB Try.prog 40 ⟨env, rows, ctr, low⟩ [.agg [.sl c zs.length (zs.map (.int .i64)), .sl d fs.length (fs.map (slI d)), .sl e o.length (o.map (.int .i64))]] k := by
  subst hL
  exact callR_in hs (c, zs, d, fs, e, o) hpre (protL_o3 _ _ _) h
set_option maxHeartbeats 4000000 in
theorem orders_1 : Sound Try.prog 40 (sOrs 1) := by
  refine sound_of Try.func40 rfl (enters_of Try.func40 (by kernel_rfl) (by kernel_rfl)) ?_
  rintro ⟨c, zs, d, fs, q, o⟩ hpre
  have hpre : sumP zs fs o → fs.length = 1 := hpre
  have hmax : maxLen = 9223372036854775807 := rfl
  by_cases hs : sumP zs fs o
  · have hm := hpre hs
    have hne : orM 1 (zs, fs, o) = [[]] := (orM_t (S := (zs, fs, o)) hs).trans (ords_1 (S := (zs, fs, o)) hm)
    conv => whnf
    repeat' (first
      | (refine tree_in (id := 9) (.one 0 (.one 1 (.one 2 (.one 3 (.one 4 (.one 5 (.one 6 (.tri 7 12 13 (.one 8 (.one 9 (.one 10 (.one 11 (.two 12 13 (.one 13 (.one 14 (.one 15 (.one 16 .nil)))) (.one 12 (.one 14 (.one 15 (.one 16 .nil))))))))) (.two 7 13 (.one 8 (.one 9 (.one 10 (.one 11 (.one 13 (.one 14 (.one 15 (.one 16 .nil)))))))) (.one 7 (.one 8 (.one 9 (.one 10 (.one 11 (.one 14 (.one 15 (.one 16 .nil))))))))) (.two 7 12 (.one 8 (.one 9 (.one 10 (.one 11 (.one 12 (.one 14 (.one 15 (.one 16 .nil)))))))) (.one 7 (.one 8 (.one 9 (.one 10 (.one 11 (.one 14 (.one 15 (.one 16 .nil))))))))))))))))) (by kernel_rfl) (by kernel_rfl) ?_; conv => whnf)
      | (refine fun (_ : _ ≤ maxLen) => ?_; conv => whnf)
      | (refine aGet_in rfl ?_; conv => whnf)
      | (refine And.intro (by omega) ?_; conv => whnf)
      | (refine load_same ?_; conv => whnf)
      | (refine And.intro rfl (And.intro (List.cons_ne_nil _ _) ?_); conv => whnf)
      | (refine And.intro (Nat.le_of_ble_eq_true rfl) ?_; conv => whnf)
      | (refine callG_t ?_; conv => whnf)
      | (refine append_same ?_; conv => whnf)
      | (refine And.intro (pureL_ii _ _) ?_; conv => whnf)
      | (refine iSumOk_call trivial ?_; conv => whnf)
      | (refine pairsOf_call rfl (by omega) ?_; conv => whnf)
      | (refine takeN_in ?_; conv => whnf)
      | (refine And.intro (pureL_ints _ _) ?_; conv => whnf)
      | (refine And.intro (And.intro (by kernel_rfl) (And.intro rfl (Nat.le_of_ble_eq_true rfl))) ?_; conv => whnf)
      | (refine And.intro (by kernel_rfl) ?_; conv => whnf)
      | refine aIf_not ?_
      | (refine aIf_dec (fun _ => ?_) (fun _ => ?_) <;> conv => whnf))
    all_goals (first | (exfalso; omega) | contradiction | skip)
    refine ret_close 3 0 2 _ _ 1 22 _ _ rfl rfl rfl (by decide) (Nat.zero_le _) (by decide) (by simp) ?_
    exact retR rfl (protL_o3 3 22 [[]]) (congrArg List.length hne).symm (congrArg (List.map (own2 3 22)) hne).symm
  · have hne : orM 1 (zs, fs, o) = [] := orM_f (S := (zs, fs, o)) hs
    conv => whnf
    repeat' (first
      | (refine tree_in (id := 9) (.one 0 (.one 1 (.one 2 (.one 3 (.one 4 (.one 5 (.one 6 (.tri 7 12 13 (.one 8 (.one 9 (.one 10 (.one 11 (.two 12 13 (.one 13 (.one 14 (.one 15 (.one 16 .nil)))) (.one 12 (.one 14 (.one 15 (.one 16 .nil))))))))) (.two 7 13 (.one 8 (.one 9 (.one 10 (.one 11 (.one 13 (.one 14 (.one 15 (.one 16 .nil)))))))) (.one 7 (.one 8 (.one 9 (.one 10 (.one 11 (.one 14 (.one 15 (.one 16 .nil))))))))) (.two 7 12 (.one 8 (.one 9 (.one 10 (.one 11 (.one 12 (.one 14 (.one 15 (.one 16 .nil)))))))) (.one 7 (.one 8 (.one 9 (.one 10 (.one 11 (.one 14 (.one 15 (.one 16 .nil))))))))))))))))) (by kernel_rfl) (by kernel_rfl) ?_; conv => whnf)
      | (refine fun (_ : _ ≤ maxLen) => ?_; conv => whnf)
      | (refine aGet_in rfl ?_; conv => whnf)
      | (refine load_same ?_; conv => whnf)
      | (refine And.intro rfl (And.intro (List.cons_ne_nil _ _) ?_); conv => whnf)
      | (refine And.intro (Nat.le_of_ble_eq_true rfl) ?_; conv => whnf)
      | (refine callG_t ?_; conv => whnf)
      | (refine append_same ?_; conv => whnf)
      | (refine And.intro (pureL_ii _ _) ?_; conv => whnf)
      | (refine iSumOk_call trivial ?_; conv => whnf)
      | (refine takeN_in ?_; conv => whnf)
      | (refine And.intro (pureL_ints _ _) ?_; conv => whnf)
      | (refine And.intro (And.intro (by kernel_rfl) (And.intro rfl (Nat.le_of_ble_eq_true rfl))) ?_; conv => whnf)
      | (refine And.intro (by kernel_rfl) ?_; conv => whnf)
      | refine aIf_not ?_
      | (refine aIf_dec (fun _ => ?_) (fun _ => ?_) <;> conv => whnf))
    all_goals (first | (exfalso; omega) | contradiction | skip)
    exact retR rfl (protL_o3 3 22 []) (congrArg List.length hne).symm (congrArg (List.map (own2 3 22)) hne).symm
set_option maxHeartbeats 16000000 in
theorem orders_2 (ih : Sound Try.prog 40 (sOrs 1)) : Sound Try.prog 40 (sOrs 2) := by
  refine sound_of Try.func40 rfl (enters_of Try.func40 (by kernel_rfl) (by kernel_rfl)) ?_
  rintro ⟨c, zs, d, fs, q, o⟩ hpre
  have hpre : sumP zs fs o → fs.length = 2 := hpre
  have hmax : maxLen = 9223372036854775807 := rfl
  by_cases hs : sumP zs fs o
  · have hm := hpre hs
    have hS : okS (zs, fs, o) := okP_of hs
    have h4 : fs.length ≤ 4 := by omega
    obtain ⟨P, hPe⟩ : ∃ P, prO fs.length fs.length = P := ⟨_, rfl⟩
    have hPl : P.length ≤ 16 := by have := prO_le h4 fs.length (Nat.le_refl _); rw [← hPe]; omega
    have hPs : ∀ k, k < P.length → isP fs.length (P.getD k []) := fun k hk => by subst hPe; exact prO_at hk
    have hPm : ∀ x ∈ P, isP fs.length x := fun x hx => by subst hPe; exact prO_is fs.length (Nat.le_refl _) x hx
    have hne : orM 2 (zs, fs, o) = ordF 1 (zs, fs, o) P := (orM_t (S := (zs, fs, o)) hs).trans ((ords_s (m := 1) (S := (zs, fs, o)) (by show fs.length ≠ 1; omega)).trans (by rw [← hPe]))
    conv => whnf
    repeat' (first
      | (refine pairsOf_callP rfl h4 hPe ?_; conv => whnf)
      | (refine fun (_ : _ ≤ maxLen) => ?_; conv => whnf)
      | (refine aGet_in rfl ?_; conv => whnf)
      | (refine And.intro (by omega) ?_; conv => whnf)
      | (refine load_same ?_; conv => whnf)
      | (refine And.intro rfl (And.intro (List.cons_ne_nil _ _) ?_); conv => whnf)
      | (refine And.intro (Nat.le_of_ble_eq_true rfl) ?_; conv => whnf)
      | (refine callG_t ?_; conv => whnf)
      | (refine append_same ?_; conv => whnf)
      | (refine And.intro (pureL_ii _ _) ?_; conv => whnf)
      | (refine iSumOk_call trivial ?_; conv => whnf)
      | (refine takeN_in ?_; conv => whnf)
      | (refine And.intro (pureL_ints _ _) ?_; conv => whnf)
      | (refine And.intro (And.intro (by kernel_rfl) (And.intro rfl (Nat.le_of_ble_eq_true rfl))) ?_; conv => whnf)
      | (refine And.intro (by kernel_rfl) ?_; conv => whnf)
      | refine aIf_not ?_
      | (refine aIf_dec (fun _ => ?_) (fun _ => ?_) <;> conv => whnf))
    all_goals (first | (exfalso; omega) | contradiction | skip)
    refine loop_to (ι := Nat) (fun j => ⟨[.un, .ptr 0 1 0, .un, .ref 2 3 0 (ordF 1 (zs, fs, o) (P.take j)).length, .un, .un, .un, .un, .un, .un, .un, .un, .un, .un, .un, .un, .un, .un, .un, .un, .un, .un, .un, .un, .ref 3 4 0 P.length, .int .i64 P.length, .int .i64 j, .un, .un, .un, .un, .un, .un, .un, .un, .un, .un, .un, .un, .un, .un, .un, .un, .un, .un, .un, .un, .un, .un, .un, .un, .un, .un, .un, .un, .un, .un, .un, .un, .un], [⟨1, 29, 3, [.sl c zs.length (zs.map (.int .i64)), .sl d fs.length (fs.map (slI d)), .sl q o.length (o.map (.int .i64))]⟩, ⟨2, 23, 1, []⟩, ⟨3, 23, 1, (ordF 1 (zs, fs, o) (P.take j)).map (own2 3 22)⟩, ⟨4, 22, 1, unk 3 P j⟩], 9, 0⟩) (fun j => j ≤ P.length) (fun j => P.length - j) 0 (Nat.zero_le _) ?_ ?_
    · refine St.le.to ?_
      conv => whnf
      repeat' (first | exact le_unkR | exact le_cells rfl (pureL_o3 _ _ _) | refine And.intro ?_ ?_)
      repeat' (first
        | exact trivial
        | exact rfl
        | exact pureL_ints _ _
        | exact Or.inl (And.intro rfl rfl)
        | exact pureL_ii _ _
        | refine Or.inr ?_
        | refine And.intro ?_ ?_
        | exact Nat.le_of_ble_eq_true rfl)
    · intro j hj
      have hj : j ≤ P.length := hj
      by_cases hltj : j < P.length
      · have hip := hPs j hltj
        have hp2 := hip.1
        obtain ⟨hW1, hE⟩ := orM_mg (S := (zs, fs, o)) (p := (P.getD j [])) (m := 1) hs hip hm
        have hsn : P.take (j + 1) = P.take j ++ [(P.getD j [])] := by rw [List.take_add_one, getD_eq (d := ([] : List Int)) hltj]; rfl
        have hQl : (ordF 1 (zs, fs, o) (P.take j)).length ≤ 300 := by
          have h1 := ordF_cnt (m := 1) (S := (zs, fs, o)) (L := P.take j) (by decide) hm fun x hx => hPm x (List.mem_of_mem_take hx)
          have h2 : (P.take j).length ≤ 16 := by rw [List.length_take]; omega
          omega
        obtain ⟨Q, hQ⟩ : ∃ Q, ordF 1 (zs, fs, o) (P.take j) = Q := ⟨_, rfl⟩
        have hQl : Q.length ≤ 300 := by rw [← hQ]; exact hQl
        obtain ⟨W, hW⟩ : ∃ W, mgW (zs, fs, o) ((P.getD j []).getD (Int.toNat 0) 0) ((P.getD j []).getD (Int.toNat 1) 0) = W := ⟨_, rfl⟩
        obtain ⟨B, hB⟩ : ∃ B, mgB (zs, fs, o) ((P.getD j []).getD (Int.toNat 0) 0) ((P.getD j []).getD (Int.toNat 1) 0) = B := ⟨_, rfl⟩
        obtain ⟨b, hb⟩ : ∃ b, decide (mgP (zs, fs, o) ((P.getD j []).getD (Int.toNat 0) 0) ((P.getD j []).getD (Int.toNat 1) 0)) = b := ⟨_, rfl⟩
        rw [hW] at hW1 hE
        obtain ⟨L, hL⟩ : ∃ L, orM 1 W = L := ⟨_, rfl⟩
        have hLc : L.length ≤ 18 := by rw [← hL]; exact orM_18 (by decide) hW1
        have hLo : ∀ i, i < L.length → (L.getD i []).length = 0 := fun i hi => by have := (orM_len hW1 (L.getD i []) (by rw [hL]; exact mem_getD (d := ([] : List (List Int))) hi)).1; omega
        rw [hL] at hE
        conv => whnf
        repeat' (first
          | (refine get_unk hltj ?_; conv => whnf)
          | (refine And.intro (by omega) ?_; conv => whnf)
          | (refine append_same ?_; conv => whnf)
          | (refine aIf_dec (fun _ => ?_) (fun _ => ?_) <;> conv => whnf))
        all_goals (first | (exfalso; omega) | contradiction | skip)
        refine share_in (id := 9) (.one 0 (.one 1 (.one 2 (.one 3 (.one 4 (.one 5 (.one 6 (.tri 7 12 13 (.one 8 (.one 9 (.one 10 (.one 11 (.two 12 13 (.one 13 (.one 14 (.one 15 (.one 16 .nil)))) (.one 12 (.one 14 (.one 15 (.one 16 .nil))))))))) (.two 7 13 (.one 8 (.one 9 (.one 10 (.one 11 (.one 13 (.one 14 (.one 15 (.one 16 .nil)))))))) (.one 7 (.one 8 (.one 9 (.one 10 (.one 11 (.one 14 (.one 15 (.one 16 .nil))))))))) (.two 7 12 (.one 8 (.one 9 (.one 10 (.one 11 (.one 12 (.one 14 (.one 15 (.one 16 .nil)))))))) (.one 7 (.one 8 (.one 9 (.one 10 (.one 11 (.one 14 (.one 15 (.one 16 .nil))))))))))))))))) (⟨[.un, .ptr 0 1 0, .un, .ref 2 3 0 (Q).length, .un, .ref 4 9 0 (P.getD j []).length, .ptr 8 14 0, .un, .un, .un, .un, .un, .un, .un, .un, .un, .un, .un, .un, .un, .un, .un, .un, .un, .ref 3 4 0 P.length, .int .i64 P.length, .int .i64 j, .un, .un, .un, .un, .un, .un, .un, .un, .un, .un, .un, .un, .un, .un, .un, .un, .un, .un, .un, .un, .un, .un, .un, .un, .un, .un, .un, .un, .un, .un, .un, .un, .un], [⟨1, 29, 3, [.sl c zs.length (zs.map (.int .i64)), .sl d fs.length (fs.map (slI d)), .sl q o.length (o.map (.int .i64))]⟩, ⟨2, 23, 1, []⟩, ⟨3, 23, 1, (Q).map (own2 3 22)⟩, ⟨4, 22, 1, unk 3 P (j + 1)⟩, ⟨9, 3, 1, (P.getD j []).map (.int .i64)⟩, ⟨10, 3, 1, W.1.map (.int .i64)⟩, ⟨10, 22, 1, W.2.1.map (ownI 3)⟩, ⟨10, 3, 1, W.2.2.map (.int .i64)⟩, ⟨14, 29, 3, [.ref 5 10 0 W.1.length, .ref 6 10 0 W.2.1.length, .ref 7 10 0 W.2.2.length]⟩], 30, 0⟩) (by kernel_rfl) (by kernel_rfl) ?_ ?_
        · skip
          conv => whnf
          repeat' (first
            | (refine orders_callW ih hW1 hL ?_; conv => whnf)
            | (refine fun (_ : _ ≤ maxLen) => ?_; conv => whnf)
            | (refine load_same ?_; conv => whnf)
            | (refine And.intro (Nat.le_of_ble_eq_true rfl) ?_; conv => whnf)
            | (refine callG_t ?_; conv => whnf)
            | (refine append_same ?_; conv => whnf)
            | (refine cut_ii rfl ?_; conv => whnf)
            | (refine takeN_in ?_; conv => whnf)
            | (refine cut_ints ?_; conv => whnf)
            | (refine And.intro (by kernel_rfl) ?_; conv => whnf))
          all_goals (first | (exfalso; omega) | contradiction | skip)
          refine loop_to (ι := Nat) (fun i => ⟨[.un, .ptr 0 1 0, .un, .ref 2 3 0 (Q ++ (L.take i).map (fun r => (P.getD j []) :: r)).length, .un, .ref 4 9 0 (P.getD j []).length, .un, .un, .un, .un, .un, .un, .un, .un, .un, .un, .un, .un, .un, .un, .un, .un, .un, .un, .ref 3 4 0 P.length, .int .i64 P.length, .int .i64 j, .un, .un, .un, .un, .un, .un, .un, .un, .un, .un, .un, .un, .un, .un, .un, .un, .ref 5 10 0 L.length, .int .i64 L.length, .int .i64 i, .un, .un, .un, .un, .un, .un, .un, .un, .un, .un, .un, .un, .un, .un], [⟨1, 29, 3, [.sl c zs.length (zs.map (.int .i64)), .sl d fs.length (fs.map (slI d)), .sl q o.length (o.map (.int .i64))]⟩, ⟨2, 23, 1, []⟩, ⟨3, 23, 1, (Q ++ (L.take i).map (fun r => (P.getD j []) :: r)).map (own2 3 22)⟩, ⟨4, 22, 1, unk 3 P (j + 1)⟩, ⟨9, 3, 1, (P.getD j []).map (.int .i64)⟩, ⟨10, 23, 1, unk3 3 22 L i⟩], 15, 0⟩) (fun i => i ≤ L.length) (fun i => L.length - i) 0 (Nat.zero_le _) ?_ ?_
          · skip
            refine to_force [] ?_
            conv => whnf
            refine to_swap 5 9 [] _ _ rfl rfl (by decide) (Nat.zero_le _) (Nat.zero_le _) ?_
            refine to_force [] ?_
            conv => whnf
            refine St.le.to ?_
            conv => whnf
            repeat' (first | exact le_unkR | exact le_unk3R | exact le_cells (by simp) (pureL_o3 _ _ _) | refine And.intro ?_ ?_)
            repeat' (first
              | exact trivial
              | exact rfl
              | exact pureL_ints _ _
              | exact Or.inl (And.intro rfl rfl)
              | exact le_ints rfl
              | exact pureL_ii _ _
              | refine Or.inr ?_
              | refine And.intro ?_ ?_
              | exact Nat.le_of_ble_eq_true rfl
              | exact List.length_append)
            all_goals simp
          · intro i hi
            have hi : i ≤ L.length := hi
            have hXl : (Q ++ (L.take i).map (fun r => (P.getD j []) :: r)).length = Q.length + i := by rw [List.length_append, List.length_map, List.length_take]; omega
            by_cases hlti : i < L.length
            · have ho := hLo i hlti
              have hLs : (L.take (i + 1)).map (fun r => (P.getD j []) :: r) = (L.take i).map (fun r => (P.getD j []) :: r) ++ [(P.getD j []) :: L.getD i []] := by rw [List.take_add_one, getD_eq (d := ([] : List (List Int))) hlti, List.map_append]; rfl
              obtain ⟨x, hx⟩ : ∃ x, L.getD i [] = x := ⟨_, rfl⟩
              rw [hx] at ho hLs
              match x, ho with
              | [], _ =>
                have hwi : IntKind.i64.wrap ((i : Int) + 1) = ((i + 1 : Nat) : Int) := IntWalk.i64_in _ (by omega)
                conv => whnf
                repeat' (first
                  | (refine get_unk3 hlti hx ?_; conv => whnf)
                  | (refine And.intro (by omega) ?_; conv => whnf)
                  | (refine callG_t ?_; conv => whnf)
                  | (refine copyNums_call (by omega) ?_; conv => whnf)
                  | (refine append_same ?_; conv => whnf)
                  | (refine cut_ints ?_; conv => whnf)
                  | (refine And.intro (And.intro (by kernel_rfl) (And.intro rfl (Nat.le_of_ble_eq_true rfl))) ?_; conv => whnf)
                  | (refine aIf_dec (fun _ => ?_) (fun _ => ?_) <;> conv => whnf))
                all_goals (first | (exfalso; omega) | contradiction | skip)
                refine append_l0 rfl rfl rfl ?_
                conv => whnf
                repeat' (first
                  | (refine append_same ?_; conv => whnf)
                  | (refine And.intro (And.intro (by kernel_rfl) (And.intro rfl (Nat.le_of_ble_eq_true rfl))) ?_; conv => whnf))
                all_goals (first | (exfalso; omega) | contradiction | skip)
                refine append_l3 rfl (by rw [List.length_map]) rfl rfl (by rw [hXl]; omega) (Nat.zero_le _) ?_
                conv => whnf
                repeat' (first
                  | (refine append_same ?_; conv => whnf))
                all_goals (first | (exfalso; omega) | contradiction | skip)
                refine next_to (i + 1) (show L.length - (i + 1) < L.length - i by omega) (by exact (by omega : i + 1 ≤ L.length)) ?_
                refine to_close 8 0 7 _ _ 1 3 _ _ rfl rfl rfl (by decide) (Nat.zero_le _) (by decide) (by simp) ?_
                refine to_force [false, false, false, false, false, false, false, false, true] ?_
                conv => whnf
                refine to_close 2 (Q ++ (L.take i).map (fun r => (P.getD j []) :: r)).length 8 _ _ 1 22 _ _ rfl ((List.getElem?_append_right (by rw [List.length_map]; omega)).trans (by rw [List.length_map, Nat.sub_self]; rfl)) rfl (by decide) (Nat.zero_le _) (by decide) (by simp) ?_
                refine St.le.to ?_
                conv => whnf
                repeat' (first | exact le_unkR | exact le_unk3 (by omega) hlti | exact le_snoc3 (xs := (P.getD j []) :: []) hLs | exact len_snoc3 hLs | refine And.intro ?_ ?_)
                repeat' (first
                  | exact trivial
                  | exact rfl
                  | exact pureL_ints _ _
                  | exact Or.inl (And.intro rfl rfl)
                  | exact le_ints rfl
                  | exact pureL_ii _ _
                  | refine Or.inr ?_
                  | refine And.intro ?_ ?_
                  | exact Nat.le_of_ble_eq_true rfl
                  | exact int_eq (by assumption))
            · have hie : i = L.length := by omega
              subst hie
              conv => whnf
              repeat' (first
                | (refine And.intro (by omega) ?_; conv => whnf)
                | (refine append_same ?_; conv => whnf)
                | (refine aIf_dec (fun _ => ?_) (fun _ => ?_) <;> conv => whnf))
              all_goals (first | (exfalso; omega) | contradiction | skip)
              refine next_to (j + 1) (show P.length - (j + 1) < P.length - j by omega) (by exact (by omega : j + 1 ≤ P.length)) ?_
              have hfin : ordF 1 (zs, fs, o) (P.take (j + 1)) = Q ++ (L.take L.length).map (fun r => (P.getD j []) :: r) := by rw [hsn, ordF_snoc, hQ, hE, List.take_length]
              refine St.le.to ?_
              conv => whnf
              repeat' (first | exact le_unkR | exact le_cells (congrArg (List.map (own2 3 22)) hfin.symm) (pureL_o3 _ _ _) | exact congrArg List.length hfin | refine And.intro ?_ ?_)
              repeat' (first
                | exact trivial
                | exact rfl
                | exact pureL_ints _ _
                | exact Or.inl (And.intro rfl rfl)
                | exact pureL_ii _ _
                | refine Or.inr ?_
                | refine And.intro ?_ ?_
                | exact Nat.le_of_ble_eq_true rfl
                | exact int_eq (by rw [IntWalk.i64_in _ (by omega)] <;> omega))
        · skip
          rw [hQ]
          conv => whnf
          repeat' (first
            | (refine iMergeOf_callW hW hB hb ?_; conv => whnf)
            | (refine fork_in ?_ ?_ <;> conv => whnf)
            | (refine get_int0 (by omega) ?_; conv => whnf)
            | (refine aGet_in rfl ?_; conv => whnf)
            | (refine And.intro (by omega) ?_; conv => whnf)
            | (refine load_same ?_; conv => whnf)
            | (refine And.intro (Nat.le_of_ble_eq_true rfl) ?_; conv => whnf)
            | (refine append_same ?_; conv => whnf)
            | (refine And.intro (pureL_ii _ _) ?_; conv => whnf)
            | (refine takeN_in ?_; conv => whnf)
            | (refine And.intro (pureL_ints _ _) ?_; conv => whnf)
            | (refine set_force ?_; conv => whnf)
            | (refine And.intro (by kernel_rfl) ?_; conv => whnf))
          all_goals first
            | (skip
               refine to_force [false, false, false, false, false, false, false, false, false, false, false, false, false, false, true, false, false, false, true] ?_
               conv => whnf
               refine to_swap 8 14 [false, false, false, false, false, false, false, false, true, false, false, false, false, false, false, false, false, false, true] _ _ rfl rfl (by decide) (Nat.zero_le _) (Nat.zero_le _) ?_
               refine to_force [false, false, false, false, false, false, false, false, true, false, false, false, false, false, false, false, false, false, true] ?_
               conv => whnf
               refine St.le.to ?_
               conv => whnf
               repeat' (first | exact le_unk (by omega) hltj | exact le_cells rfl (pureL_o3 _ _ _) | refine And.intro ?_ ?_)
               repeat' (first
                 | exact trivial
                 | exact rfl
                 | exact pureL_ints _ _
                 | exact Or.inl (And.intro rfl rfl)
                 | exact le_ints rfl
                 | exact pureL_ii _ _
                 | exact Or.inl (And.intro (pureL_oi _ _) rfl)
                 | refine Or.inr ?_
                 | refine And.intro ?_ ?_
                 | exact Nat.le_of_ble_eq_true rfl)
               done)
            | (skip
               refine to_force [false, false, false, false, false, false, false, false, false, false, false, false, false, false, true, false, false, false, true] ?_
               conv => whnf
               refine to_swap 8 18 [false, false, false, false, false, false, false, false, true, false, false, false, false, false, true] _ _ rfl rfl (by decide) (Nat.zero_le _) (Nat.zero_le _) ?_
               refine to_force [false, false, false, false, false, false, false, false, true, false, false, false, false, false, true] ?_
               conv => whnf
               refine St.le.to ?_
               conv => whnf
               repeat' (first | exact le_unk (by omega) hltj | exact le_cells rfl (pureL_o3 _ _ _) | refine And.intro ?_ ?_)
               repeat' (first
                 | exact trivial
                 | exact rfl
                 | exact pureL_ints _ _
                 | exact Or.inl (And.intro rfl rfl)
                 | exact le_ints rfl
                 | exact pureL_ii _ _
                 | exact Or.inl (And.intro (pureL_oi _ _) rfl)
                 | refine Or.inr ?_
                 | refine And.intro ?_ ?_
                 | exact Nat.le_of_ble_eq_true rfl)
               done)
            | (skip
               refine to_force [false, false, false, false, false, false, false, false, true, false, false, false, false, false, false, false, false, false, true] ?_
               conv => whnf
               refine to_swap 5 9 [false, false, false, false, false, false, false, false, true, false, false, false, false, false, false, false, false, false, true] _ _ rfl rfl (by decide) (Nat.zero_le _) (Nat.zero_le _) ?_
               refine to_force [false, false, false, false, false, false, false, false, true, false, false, false, false, false, false, false, false, false, true] ?_
               conv => whnf
               refine to_swap 6 10 [false, false, false, false, false, false, false, false, true, false, false, false, false, false, false, false, false, false, true] _ _ rfl rfl (by decide) (Nat.zero_le _) (Nat.zero_le _) ?_
               refine to_force [false, false, false, false, false, false, false, false, true, false, false, false, false, false, false, false, false, false, true] ?_
               conv => whnf
               refine to_swap 7 11 [false, false, false, false, false, false, false, false, true, false, false, false, false, false, false, false, false, false, true] _ _ rfl rfl (by decide) (Nat.zero_le _) (Nat.zero_le _) ?_
               refine to_force [false, false, false, false, false, false, false, false, true, false, false, false, false, false, false, false, false, false, true] ?_
               conv => whnf
               refine St.le.to ?_
               conv => whnf
               repeat' (first | exact le_unk (by omega) hltj | exact le_cells rfl (pureL_o3 _ _ _) | refine And.intro ?_ ?_)
               repeat' (first
                 | exact trivial
                 | exact rfl
                 | exact pureL_ints _ _
                 | exact Or.inl (And.intro rfl rfl)
                 | exact le_ints rfl
                 | exact pureL_ii _ _
                 | exact Or.inl (And.intro (pureL_oi _ _) rfl)
                 | refine Or.inr ?_
                 | refine And.intro ?_ ?_
                 | exact Nat.le_of_ble_eq_true rfl)
               done)
            | (skip
               refine to_force [false, false, false, false, false, false, false, false, true, false, false, false, true] ?_
               conv => whnf
               refine to_swap 5 13 [false, false, false, false, false, false, false, false, true, false, false, false, true] _ _ rfl rfl (by decide) (Nat.zero_le _) (Nat.zero_le _) ?_
               refine to_force [false, false, false, false, false, false, false, false, true, false, false, false, true] ?_
               conv => whnf
               refine to_swap 6 14 [false, false, false, false, false, false, false, false, true, false, false, false, true] _ _ rfl rfl (by decide) (Nat.zero_le _) (Nat.zero_le _) ?_
               refine to_force [false, false, false, false, false, false, false, false, true, false, false, false, true] ?_
               conv => whnf
               refine to_swap 7 15 [false, false, false, false, false, false, false, false, true, false, false, false, true] _ _ rfl rfl (by decide) (Nat.zero_le _) (Nat.zero_le _) ?_
               refine to_force [false, false, false, false, false, false, false, false, true, false, false, false, true] ?_
               conv => whnf
               refine St.le.to ?_
               conv => whnf
               repeat' (first | exact le_unk (by omega) hltj | exact le_cells rfl (pureL_o3 _ _ _) | refine And.intro ?_ ?_)
               repeat' (first
                 | exact trivial
                 | exact rfl
                 | exact pureL_ints _ _
                 | exact Or.inl (And.intro rfl rfl)
                 | exact le_ints rfl
                 | exact pureL_ii _ _
                 | exact Or.inl (And.intro (pureL_oi _ _) rfl)
                 | refine Or.inr ?_
                 | refine And.intro ?_ ?_
                 | exact Nat.le_of_ble_eq_true rfl)
               done)
            | (skip
               refine to_force [false, false, false, false, false, false, false, false, true, false, false, false, false, false, false, false, false, false, true] ?_
               conv => whnf
               refine to_swap 5 9 [false, false, false, false, false, false, false, false, true, false, false, false, false, false, false, false, false, false, true] _ _ rfl rfl (by decide) (Nat.zero_le _) (Nat.zero_le _) ?_
               refine to_force [false, false, false, false, false, false, false, false, true, false, false, false, false, false, false, false, false, false, true] ?_
               conv => whnf
               refine to_swap 6 10 [false, false, false, false, false, false, false, false, true, false, false, false, false, false, false, false, false, false, true] _ _ rfl rfl (by decide) (Nat.zero_le _) (Nat.zero_le _) ?_
               refine to_force [false, false, false, false, false, false, false, false, true, false, false, false, false, false, false, false, false, false, true] ?_
               conv => whnf
               refine to_swap 7 11 [false, false, false, false, false, false, false, false, true, false, false, false, false, false, false, false, false, false, true] _ _ rfl rfl (by decide) (Nat.zero_le _) (Nat.zero_le _) ?_
               refine to_force [false, false, false, false, false, false, false, false, true, false, false, false, false, false, false, false, false, false, true] ?_
               conv => whnf
               refine to_swap 8 18 [false, false, false, false, false, false, false, false, true, false, false, false, false, false, false, false, false, false, true] _ _ rfl rfl (by decide) (Nat.zero_le _) (Nat.zero_le _) ?_
               refine to_force [false, false, false, false, false, false, false, false, true, false, false, false, false, false, false, false, false, false, true] ?_
               conv => whnf
               refine St.le.to ?_
               conv => whnf
               repeat' (first | exact le_unk (by omega) hltj | exact le_cells rfl (pureL_o3 _ _ _) | refine And.intro ?_ ?_)
               repeat' (first
                 | exact trivial
                 | exact rfl
                 | exact pureL_ints _ _
                 | exact Or.inl (And.intro rfl rfl)
                 | exact le_ints rfl
                 | exact pureL_ii _ _
                 | exact Or.inl (And.intro (pureL_oi _ _) rfl)
                 | refine Or.inr ?_
                 | refine And.intro ?_ ?_
                 | exact Nat.le_of_ble_eq_true rfl)
               done)
            | (skip
               refine to_force [false, false, false, false, false, false, false, false, true, false, false, false, true] ?_
               conv => whnf
               refine to_swap 5 13 [false, false, false, false, false, false, false, false, true, false, false, false, true] _ _ rfl rfl (by decide) (Nat.zero_le _) (Nat.zero_le _) ?_
               refine to_force [false, false, false, false, false, false, false, false, true, false, false, false, true] ?_
               conv => whnf
               refine to_swap 6 14 [false, false, false, false, false, false, false, false, true, false, false, false, true] _ _ rfl rfl (by decide) (Nat.zero_le _) (Nat.zero_le _) ?_
               refine to_force [false, false, false, false, false, false, false, false, true, false, false, false, true] ?_
               conv => whnf
               refine to_swap 7 15 [false, false, false, false, false, false, false, false, true, false, false, false, true] _ _ rfl rfl (by decide) (Nat.zero_le _) (Nat.zero_le _) ?_
               refine to_force [false, false, false, false, false, false, false, false, true, false, false, false, true] ?_
               conv => whnf
               refine to_swap 8 12 [false, false, false, false, false, false, false, false, true, false, false, false, true] _ _ rfl rfl (by decide) (Nat.zero_le _) (Nat.zero_le _) ?_
               refine to_force [false, false, false, false, false, false, false, false, true, false, false, false, true] ?_
               conv => whnf
               refine St.le.to ?_
               conv => whnf
               repeat' (first | exact le_unk (by omega) hltj | exact le_cells rfl (pureL_o3 _ _ _) | refine And.intro ?_ ?_)
               repeat' (first
                 | exact trivial
                 | exact rfl
                 | exact pureL_ints _ _
                 | exact Or.inl (And.intro rfl rfl)
                 | exact le_ints rfl
                 | exact pureL_ii _ _
                 | exact Or.inl (And.intro (pureL_oi _ _) rfl)
                 | refine Or.inr ?_
                 | refine And.intro ?_ ?_
                 | exact Nat.le_of_ble_eq_true rfl)
               done)
      · have hje : j = P.length := by omega
        subst hje
        have hfin : orM 2 (zs, fs, o) = ordF 1 (zs, fs, o) (P.take P.length) := by rw [List.take_length]; exact hne
        conv => whnf
        repeat' (first
          | (refine And.intro (by omega) ?_; conv => whnf)
          | (refine append_same ?_; conv => whnf)
          | (refine aIf_dec (fun _ => ?_) (fun _ => ?_) <;> conv => whnf))
        all_goals (first | (exfalso; omega) | contradiction | skip)
        exact retR rfl (protL_o3 _ _ _) (congrArg List.length hfin).symm (congrArg (List.map (own2 3 22)) hfin).symm
  · have hne : orM 2 (zs, fs, o) = [] := orM_f (S := (zs, fs, o)) hs
    conv => whnf
    repeat' (first
      | (refine fun (_ : _ ≤ maxLen) => ?_; conv => whnf)
      | (refine aGet_in rfl ?_; conv => whnf)
      | (refine load_same ?_; conv => whnf)
      | (refine And.intro rfl (And.intro (List.cons_ne_nil _ _) ?_); conv => whnf)
      | (refine And.intro (Nat.le_of_ble_eq_true rfl) ?_; conv => whnf)
      | (refine callG_t ?_; conv => whnf)
      | (refine append_same ?_; conv => whnf)
      | (refine And.intro (pureL_ii _ _) ?_; conv => whnf)
      | (refine iSumOk_call trivial ?_; conv => whnf)
      | (refine takeN_in ?_; conv => whnf)
      | (refine And.intro (pureL_ints _ _) ?_; conv => whnf)
      | (refine And.intro (And.intro (by kernel_rfl) (And.intro rfl (Nat.le_of_ble_eq_true rfl))) ?_; conv => whnf)
      | (refine And.intro (by kernel_rfl) ?_; conv => whnf)
      | refine aIf_not ?_
      | (refine aIf_dec (fun _ => ?_) (fun _ => ?_) <;> conv => whnf))
    all_goals (first | (exfalso; omega) | contradiction | skip)
    exact retR rfl (protL_o3 3 22 []) (congrArg List.length hne).symm (congrArg (List.map (own2 3 22)) hne).symm
end Go.Proofs.Ytmgggbgejdkamaa
