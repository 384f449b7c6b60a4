import Derived.Test.YtmgggbgejdkamaaM1x1
import Derived.Test.YtmgggbgejdkamaaM01x25
/- Chapter 5: the greedy order, of the model. -/
namespace Go.Proofs.Ytmgggbgejdkamaa
set_option maxRecDepth 20000
open Go.RowKit Go.Am
set_option linter.unusedSimpArgs false
attribute [local irreducible] aPlan aGet aIf aLoop aCall RetB NextB CallB CallG aCut aSet aAppend
theorem l5P_pr {S : Sm} {a b : Int} (h : okS S) : l5P (pairM S.1 S.2.1 S.2.2 a b).1 (pairM S.1 S.2.1 S.2.2 a b).2.1 (pairM S.1 S.2.1 S.2.2 a b).2.2 := by
  have h5 := h.z5
  have hl := lfTo_len S.2.1 S.2.2 a b S.1.length
  have hl : (lfL S.1 S.2.1 S.2.2 a b).length ≤ S.1.length := hl
  refine ⟨h5, Nat.le_of_ble_eq_true rfl, fun k hk => ?_, by show (lfL S.1 S.2.1 S.2.2 a b).length ≤ 1000; omega, difP_in (lfL_dif _ _ _ _ _)⟩
  have hk : k < 2 := hk
  match k, hk with
  | 0, _ => have := letP_at h a.toNat; exact ⟨by have := this.1; show (S.2.1.getD a.toNat []).length ≤ 1000; omega, difP_in this.2⟩
  | 1, _ => have := letP_at h b.toNat; exact ⟨by have := this.1; show (S.2.1.getD b.toNat []).length ≤ 1000; omega, difP_in this.2⟩
set_option maxHeartbeats 32000000 in
theorem sGreedy_sound : Sound Try.prog 47 sGreedy := by
  refine sound_of Try.func47 rfl (enters_of Try.func47 (by kernel_rfl) (by kernel_rfl)) ?_
  rintro ⟨c, zs, d, fs, q, o⟩ -
  have hmax : maxLen = 9223372036854775807 := rfl
  by_cases hs : sumP zs fs o
  · have hS : okS (zs, fs, o) := okP_of hs
    have h4 := hs.2.2.1
    conv => whnf
    repeat' (first
      | (refine plan_in (id := 20) [0, 1, 2, 3, 4, 5, 6, 7, 8] (by kernel_rfl) (by kernel_rfl) ?_; conv => whnf)
      | (refine load_same ?_; conv => whnf)
      | (refine And.intro rfl (And.intro (List.cons_ne_nil _ _) ?_); conv => whnf)
      | (refine And.intro (Nat.le_of_ble_eq_true rfl) ?_; conv => whnf)
      | (refine callG_t ?_; conv => whnf)
      | (refine append_same ?_; conv => whnf)
      | (refine And.intro (pureL_ii _ _) ?_; conv => whnf)
      | (refine sSumOk_call trivial ?_; conv => whnf)
      | (refine takeN_in ?_; conv => whnf)
      | (refine And.intro (pureL_ints _ _) ?_; conv => whnf)
      | (refine And.intro (And.intro (by kernel_rfl) (And.intro rfl (Nat.le_of_ble_eq_true rfl))) ?_; conv => whnf)
      | (refine And.intro (by kernel_rfl) ?_; conv => whnf)
      | refine aIf_not ?_
      | (refine aIf_dec (fun _ => ?_) (fun _ => ?_) <;> conv => whnf))
    all_goals (first | (exfalso; omega) | contradiction | skip)
    refine loop_to (ι := Nat × Bool) (fun | (i, true) => ⟨[.un, .ptr 0 1 0, .un, .un, .ref 2 4 0 (gL (zs, fs, o) i).length, .un, .un, .un, .un, .un, .un, .un, .un, .un, .un, .un, .un, .un, .un, .un, .un, .un, .un, .un, .un, .un, .un, .un, .un, .un, .un, .un, .un, .un, .un, .un, .un, .un, .un, .un, .un, .un, .un, .un, .un, .un, .un, .un, .un, .un, .un, .un, .un, .un, .un, .un, .un, .un, .un, .un, .un, .un, .un, .un, .un, .un, .un, .un, .un, .un, .un, .un, .un, .un, .un, .un], [⟨1, 29, 3, [.sl c zs.length (zs.map (.int .i64)), .sl d fs.length (fs.map (slI d)), .sl q o.length (o.map (.int .i64))]⟩, ⟨2, 22, 1, []⟩, ⟨4, 22, 1, (gL (zs, fs, o) i).map (ownI 3)⟩], 9, 0⟩ | (i, false) => ⟨[.un, .ptr 0 1 0, .un, .un, .ref 2 4 0 (gL (zs, fs, o) i).length, .un, .un, .un, .un, .un, .un, .un, .un, .un, .un, .un, .un, .un, .un, .un, .un, .un, .un, .un, .un, .un, .un, .un, .un, .un, .un, .un, .un, .un, .un, .un, .un, .un, .un, .un, .un, .un, .un, .un, .un, .un, .un, .un, .un, .un, .un, .un, .un, .un, .un, .un, .un, .un, .un, .un, .un, .un, .un, .un, .un, .un, .un, .un, .un, .un, .un, .un, .un, .un, .un, .un], [⟨1, 29, 3, [.ref 3 5 0 (gT (zs, fs, o) i).1.length, .ref 4 6 0 (gT (zs, fs, o) i).2.1.length, .ref 5 7 0 (gT (zs, fs, o) i).2.2.length]⟩, ⟨2, 22, 1, []⟩, ⟨4, 22, 1, (gL (zs, fs, o) i).map (ownI 3)⟩, ⟨5, 3, 1, (gT (zs, fs, o) i).1.map (.int .i64)⟩, ⟨6, 22, 1, (gT (zs, fs, o) i).2.1.map (ownI 3)⟩, ⟨7, 3, 1, (gT (zs, fs, o) i).2.2.map (.int .i64)⟩], 9, 0⟩) (fun x => x.1 < fs.length ∧ gP (zs, fs, o) x.1 ∧ (x.2 = true → x.1 = 0)) (fun x => fs.length - x.1) (0, true) ⟨by show 0 < fs.length; omega, gP_0 _, fun _ => rfl⟩ ?_ ?_
    · refine St.le.to ?_
      conv => whnf
      repeat' (first
        | exact trivial
        | exact rfl
        | exact pureL_ints _ _
        | exact Or.inl (And.intro rfl rfl)
        | exact pureL_ii _ _
        | refine Or.inr ?_
        | refine And.intro ?_ ?_
        | exact Nat.le_of_ble_eq_true rfl)
    · rintro ⟨i, first⟩ hi
      obtain ⟨hi, hP, hz⟩ := hi
      have hi : i < fs.length := hi
      have hP : gP (zs, fs, o) i := hP
      cases first with
      | true =>
        have e0 : gT (zs, fs, o) i = (zs, fs, o) := by rw [show i = 0 from hz rfl]; rfl
        obtain ⟨hT, hm⟩ := gT_ok hS i hP
        rw [e0] at hT hm
        have hT : okS (zs, fs, o) := hT
        have hm : fs.length + i = fs.length := hm
        have h41 := hT.f4
        have h41 : fs.length ≤ 4 := h41
        obtain ⟨m, hmm⟩ : ∃ m, fs.length = m := ⟨_, rfl⟩
        by_cases hlt : 1 < m
        · have hgll := gL_len (zs, fs, o) i
          conv => whnf
          repeat' (first
            | (refine plan_in (id := 20) [0, 1, 2, 3, 4, 5, 6, 7, 8] (by kernel_rfl) (by kernel_rfl) ?_; conv => whnf)
            | (refine fun (_ : _ ≤ maxLen) => ?_; conv => whnf)
            | (refine aGet_in rfl ?_; conv => whnf)
            | (refine append_same ?_; conv => whnf)
            | (refine And.intro (And.intro (by kernel_rfl) (And.intro rfl (Nat.le_of_ble_eq_true rfl))) ?_; conv => whnf)
            | (refine aIf_dec (fun _ => ?_) (fun _ => ?_) <;> conv => whnf))
          all_goals (first | (exfalso; omega) | contradiction | skip)
          refine loop_to (ι := Nat × (List Int × Int)) (fun | (a, x) => ⟨[.un, .ptr 0 1 0, .un, .un, .ref 2 4 0 (gL (zs, fs, o) i).length, .ref 3 9 0 x.1.length, .int .i64 x.2, .int .i64 a, .un, .un, .un, .un, .un, .un, .un, .un, .un, .un, .un, .un, .un, .un, .un, .un, .un, .un, .un, .un, .un, .un, .un, .un, .un, .un, .un, .un, .un, .un, .un, .un, .un, .un, .un, .un, .un, .un, .un, .un, .un, .un, .un, .un, .un, .un, .un, .un, .un, .un, .un, .un, .un, .un, .un, .un, .un, .un, .un, .un, .un, .un, .un, .un, .un, .un, .un, .un], [⟨1, 29, 3, [.sl c zs.length (zs.map (.int .i64)), .sl d fs.length (fs.map (slI d)), .sl q o.length (o.map (.int .i64))]⟩, ⟨2, 22, 1, []⟩, ⟨4, 22, 1, (gL (zs, fs, o) i).map (ownI 3)⟩, ⟨9, 3, 1, x.1.map (.int .i64)⟩], 12, 0⟩) (fun y => y.1 ≤ m ∧ y.2 = scL (zs, fs, o) (prO m y.1)) (fun y => m - y.1) (0, ([], 0)) ⟨Nat.zero_le _, rfl⟩ ?_ ?_
          · refine St.le.to ?_
            conv => whnf
            repeat' (first
              | exact trivial
              | exact rfl
              | exact pureL_ints _ _
              | exact Or.inl (And.intro rfl rfl)
              | exact pureL_ii _ _
              | exact Or.inl (And.intro (pureL_oi _ _) rfl)
              | refine Or.inr ?_
              | refine And.intro ?_ ?_
              | exact Nat.le_of_ble_eq_true rfl)
          · rintro ⟨a, x⟩ ⟨ha, hx⟩
            have ha : a ≤ m := ha
            have hx : x = scL (zs, fs, o) (prO m a) := hx
            by_cases hlta : a < m
            · have hwa : IntKind.i64.wrap ((a : Int) + 1) = ((a + 1 + 0 : Nat) : Int) := IntWalk.i64_in _ (by omega)
              have hwa2 : IntKind.i64.wrap ((a : Int) + 1) = ((a + 1 : Nat) : Int) := IntWalk.i64_in _ (by omega)
              conv => whnf
              repeat' (first
                | (refine plan_in (id := 20) [0, 1, 2, 3, 4, 5, 6, 7, 8] (by kernel_rfl) (by kernel_rfl) ?_; conv => whnf)
                | (refine fun (_ : _ ≤ maxLen) => ?_; conv => whnf)
                | (refine aGet_in rfl ?_; conv => whnf)
                | (refine And.intro (by omega) ?_; conv => whnf)
                | (refine append_same ?_; conv => whnf)
                | (refine aIf_dec (fun _ => ?_) (fun _ => ?_) <;> conv => whnf))
              all_goals (first | (exfalso; omega) | contradiction | skip)
              refine loop_to (ι := Nat × (List Int × Int)) (fun | (k, y) => ⟨[.un, .ptr 0 1 0, .un, .un, .ref 2 4 0 (gL (zs, fs, o) i).length, .ref 3 9 0 y.1.length, .int .i64 y.2, .int .i64 a, .int .i64 ((a + 1 + k : Nat) : Int), .un, .un, .un, .un, .un, .un, .un, .un, .un, .un, .un, .un, .un, .un, .un, .un, .un, .un, .un, .un, .un, .un, .un, .un, .un, .un, .un, .un, .un, .un, .un, .un, .un, .un, .un, .un, .un, .un, .un, .un, .un, .un, .un, .un, .un, .un, .un, .un, .un, .un, .un, .un, .un, .un, .un, .un, .un, .un, .un, .un, .un, .un, .un, .un, .un, .un, .un], [⟨1, 29, 3, [.sl c zs.length (zs.map (.int .i64)), .sl d fs.length (fs.map (slI d)), .sl q o.length (o.map (.int .i64))]⟩, ⟨2, 22, 1, []⟩, ⟨4, 22, 1, (gL (zs, fs, o) i).map (ownI 3)⟩, ⟨9, 3, 1, y.1.map (.int .i64)⟩], 14, 0⟩) (fun u => a + 1 + u.1 ≤ m ∧ u.2 = scL (zs, fs, o) (prO m a ++ prI a u.1)) (fun u => m - u.1) (0, x) ⟨(by omega : a + 1 + 0 ≤ m), hx.trans (by rw [show prI a 0 = [] from rfl, List.append_nil])⟩ ?_ ?_
              · refine St.le.to ?_
                conv => whnf
                repeat' (first
                  | exact trivial
                  | exact rfl
                  | exact pureL_ints _ _
                  | exact Or.inl (And.intro rfl rfl)
                  | exact le_ints rfl
                  | exact pureL_ii _ _
                  | exact Or.inl (And.intro (pureL_oi _ _) rfl)
                  | refine Or.inr ?_
                  | refine And.intro ?_ ?_
                  | exact Nat.le_of_ble_eq_true rfl
                  | exact int_eq (by assumption))
              · rintro ⟨k, y⟩ ⟨hk, hy⟩
                have hk : a + 1 + k ≤ m := hk
                have hy : y = scL (zs, fs, o) (prO m a ++ prI a k) := hy
                have hyn : scL (zs, fs, o) (prO m a ++ prI a (k + 1)) = scS (zs, fs, o) y [(a : Int), ((a + 1 + k : Nat) : Int)] := by rw [show prI a (k + 1) = prI a k ++ [[(a : Int), ((a + 1 + k : Nat) : Int)]] from rfl, ← List.append_assoc, scL_snoc, hy]
                by_cases hltk : a + 1 + k < m
                · have hwk : IntKind.i64.wrap (((a + 1 + k : Nat) : Int) + 1) = ((a + 1 + (k + 1) : Nat) : Int) := IntWalk.i64_in _ (by omega)
                  have hp : prP zs fs o (a : Int) ((a + 1 + k : Nat) : Int) := okP_pr hT ⟨⟨by omega, by omega⟩, ⟨by omega, by omega⟩⟩
                  have h2 := l5P_pr (a := (a : Int)) (b := ((a + 1 + k : Nat) : Int)) hT
                  have h2 : l5P (pairM zs fs o (a : Int) ((a + 1 + k : Nat) : Int)).1 (pairM zs fs o (a : Int) ((a + 1 + k : Nat) : Int)).2.1 (pairM zs fs o (a : Int) ((a + 1 + k : Nat) : Int)).2.2 := h2
                  have hcst : cntTo (ownM (pairM zs fs o (a : Int) ((a + 1 + k : Nat) : Int)).1 (pairM zs fs o (a : Int) ((a + 1 + k : Nat) : Int)).2.1 (pairM zs fs o (a : Int) ((a + 1 + k : Nat) : Int)).2.2).1 (ownM (pairM zs fs o (a : Int) ((a + 1 + k : Nat) : Int)).1 (pairM zs fs o (a : Int) ((a + 1 + k : Nat) : Int)).2.1 (pairM zs fs o (a : Int) ((a + 1 + k : Nat) : Int)).2.2).1.length = bc (zs, fs, o) [(a : Int), ((a + 1 + k : Nat) : Int)] := rfl
                  by_cases hn3 : (lfL zs fs o (a : Int) ((a + 1 + k : Nat) : Int)).length ≤ 3
                  · have hn : nrw (zs, fs, o) [(a : Int), ((a + 1 + k : Nat) : Int)] := hn3
                    by_cases hA : y.1 = []
                    · have hA2 : y.1.length = 0 := by rw [hA]; rfl
                      conv => whnf
                      repeat' (first
                        | (refine plan_in (id := 20) [0, 1, 2, 3, 4, 5, 6, 7, 8] (by kernel_rfl) (by kernel_rfl) ?_; conv => whnf)
                        | (refine aIf_t ?_; conv => whnf)
                        | (refine aIf_f ?_; conv => whnf)
                        | (refine fun (_ : _ ≤ maxLen) => ?_; conv => whnf)
                        | (refine aGet_in rfl ?_; conv => whnf)
                        | (refine And.intro (by omega) ?_; conv => whnf)
                        | (refine load_same ?_; conv => whnf)
                        | (refine And.intro (Nat.le_of_ble_eq_true rfl) ?_; conv => whnf)
                        | (refine callG_t ?_; conv => whnf)
                        | (refine append_same ?_; conv => whnf)
                        | (refine And.intro (pureL_ii _ _) ?_; conv => whnf)
                        | (refine cut_ii rfl ?_; conv => whnf)
                        | (refine l5Pair_call (by assumption) ?_; conv => whnf)
                        | (refine l5Own_call (by assumption) ?_; conv => whnf)
                        | (refine l5Narrow_call (by assumption) ?_; conv => whnf)
                        | (refine takeN_in ?_; conv => whnf)
                        | (refine And.intro (pureL_ints _ _) ?_; conv => whnf)
                        | (refine cut_ints ?_; conv => whnf)
                        | (refine l1Count_call ?_; conv => whnf)
                        | (refine And.intro (And.intro (by kernel_rfl) (And.intro rfl (Nat.le_of_ble_eq_true rfl))) ?_; conv => whnf)
                        | (refine And.intro (by kernel_rfl) ?_; conv => whnf)
                        | refine aIf_eqt ?_
                        | refine aIf_eqf ?_
                        | (refine aIf_dec (fun _ => ?_) (fun _ => ?_) <;> conv => whnf))
                      all_goals (first | (exfalso; omega) | contradiction | skip)
                      refine next_to (k + 1, ([(a : Int), ((a + 1 + k : Nat) : Int)], bc (zs, fs, o) [(a : Int), ((a + 1 + k : Nat) : Int)])) (show m - (k + 1) < m - k by omega) ⟨(by omega : a + 1 + (k + 1) ≤ m), (hyn.trans (scS_t hn (.inl hA))).symm⟩ ?_
                      refine to_force [] ?_
                      conv => whnf
                      refine to_swap 3 10 [] _ _ rfl rfl (by decide) (Nat.zero_le _) (Nat.zero_le _) ?_
                      refine to_force [] ?_
                      conv => whnf
                      refine St.le.to ?_
                      conv => whnf
                      repeat' (first
                        | exact trivial
                        | exact rfl
                        | exact pureL_ints _ _
                        | exact Or.inl (And.intro rfl rfl)
                        | exact pureL_ii _ _
                        | exact Or.inl (And.intro (pureL_oi _ _) rfl)
                        | refine Or.inr ?_
                        | refine And.intro ?_ ?_
                        | exact Nat.le_of_ble_eq_true rfl
                        | exact int_eq (by assumption))
                    · have hA2 : 0 < y.1.length := List.length_pos_iff.2 hA
                      by_cases hlt2 : bc (zs, fs, o) [(a : Int), ((a + 1 + k : Nat) : Int)] < y.2
                      · have hlt3 : cntTo (ownM (pairM zs fs o (a : Int) ((a + 1 + k : Nat) : Int)).1 (pairM zs fs o (a : Int) ((a + 1 + k : Nat) : Int)).2.1 (pairM zs fs o (a : Int) ((a + 1 + k : Nat) : Int)).2.2).1 (ownM (pairM zs fs o (a : Int) ((a + 1 + k : Nat) : Int)).1 (pairM zs fs o (a : Int) ((a + 1 + k : Nat) : Int)).2.1 (pairM zs fs o (a : Int) ((a + 1 + k : Nat) : Int)).2.2).1.length < y.2 := hlt2
                        conv => whnf
                        repeat' (first
                          | (refine plan_in (id := 20) [0, 1, 2, 3, 4, 5, 6, 7, 8] (by kernel_rfl) (by kernel_rfl) ?_; conv => whnf)
                          | (refine aIf_t ?_; conv => whnf)
                          | (refine aIf_f ?_; conv => whnf)
                          | (refine fun (_ : _ ≤ maxLen) => ?_; conv => whnf)
                          | (refine aGet_in rfl ?_; conv => whnf)
                          | (refine And.intro (by omega) ?_; conv => whnf)
                          | (refine load_same ?_; conv => whnf)
                          | (refine And.intro (Nat.le_of_ble_eq_true rfl) ?_; conv => whnf)
                          | (refine callG_t ?_; conv => whnf)
                          | (refine append_same ?_; conv => whnf)
                          | (refine And.intro (pureL_ii _ _) ?_; conv => whnf)
                          | (refine cut_ii rfl ?_; conv => whnf)
                          | (refine l5Pair_call (by assumption) ?_; conv => whnf)
                          | (refine l5Own_call (by assumption) ?_; conv => whnf)
                          | (refine l5Narrow_call (by assumption) ?_; conv => whnf)
                          | (refine takeN_in ?_; conv => whnf)
                          | (refine And.intro (pureL_ints _ _) ?_; conv => whnf)
                          | (refine cut_ints ?_; conv => whnf)
                          | (refine l1Count_call ?_; conv => whnf)
                          | (refine And.intro (And.intro (by kernel_rfl) (And.intro rfl (Nat.le_of_ble_eq_true rfl))) ?_; conv => whnf)
                          | (refine And.intro (by kernel_rfl) ?_; conv => whnf)
                          | refine aIf_eqt ?_
                          | refine aIf_eqf ?_
                          | (refine aIf_dec (fun _ => ?_) (fun _ => ?_) <;> conv => whnf))
                        all_goals (first | (exfalso; omega) | contradiction | skip)
                        refine next_to (k + 1, ([(a : Int), ((a + 1 + k : Nat) : Int)], bc (zs, fs, o) [(a : Int), ((a + 1 + k : Nat) : Int)])) (show m - (k + 1) < m - k by omega) ⟨(by omega : a + 1 + (k + 1) ≤ m), (hyn.trans (scS_t hn (.inr hlt2))).symm⟩ ?_
                        refine to_force [] ?_
                        conv => whnf
                        refine to_swap 3 10 [] _ _ rfl rfl (by decide) (Nat.zero_le _) (Nat.zero_le _) ?_
                        refine to_force [] ?_
                        conv => whnf
                        refine St.le.to ?_
                        conv => whnf
                        repeat' (first
                          | exact trivial
                          | exact rfl
                          | exact pureL_ints _ _
                          | exact Or.inl (And.intro rfl rfl)
                          | exact pureL_ii _ _
                          | exact Or.inl (And.intro (pureL_oi _ _) rfl)
                          | refine Or.inr ?_
                          | refine And.intro ?_ ?_
                          | exact Nat.le_of_ble_eq_true rfl
                          | exact int_eq (by assumption))
                      · have hlt3 : ¬ cntTo (ownM (pairM zs fs o (a : Int) ((a + 1 + k : Nat) : Int)).1 (pairM zs fs o (a : Int) ((a + 1 + k : Nat) : Int)).2.1 (pairM zs fs o (a : Int) ((a + 1 + k : Nat) : Int)).2.2).1 (ownM (pairM zs fs o (a : Int) ((a + 1 + k : Nat) : Int)).1 (pairM zs fs o (a : Int) ((a + 1 + k : Nat) : Int)).2.1 (pairM zs fs o (a : Int) ((a + 1 + k : Nat) : Int)).2.2).1.length < y.2 := hlt2
                        conv => whnf
                        repeat' (first
                          | (refine plan_in (id := 20) [0, 1, 2, 3, 4, 5, 6, 7, 8] (by kernel_rfl) (by kernel_rfl) ?_; conv => whnf)
                          | (refine aIf_t ?_; conv => whnf)
                          | (refine aIf_f ?_; conv => whnf)
                          | (refine fun (_ : _ ≤ maxLen) => ?_; conv => whnf)
                          | (refine aGet_in rfl ?_; conv => whnf)
                          | (refine And.intro (by omega) ?_; conv => whnf)
                          | (refine load_same ?_; conv => whnf)
                          | (refine And.intro (Nat.le_of_ble_eq_true rfl) ?_; conv => whnf)
                          | (refine callG_t ?_; conv => whnf)
                          | (refine append_same ?_; conv => whnf)
                          | (refine And.intro (pureL_ii _ _) ?_; conv => whnf)
                          | (refine cut_ii rfl ?_; conv => whnf)
                          | (refine l5Pair_call (by assumption) ?_; conv => whnf)
                          | (refine l5Own_call (by assumption) ?_; conv => whnf)
                          | (refine l5Narrow_call (by assumption) ?_; conv => whnf)
                          | (refine takeN_in ?_; conv => whnf)
                          | (refine And.intro (pureL_ints _ _) ?_; conv => whnf)
                          | (refine cut_ints ?_; conv => whnf)
                          | (refine l1Count_call ?_; conv => whnf)
                          | (refine And.intro (by kernel_rfl) ?_; conv => whnf)
                          | refine aIf_eqt ?_
                          | refine aIf_eqf ?_
                          | (refine aIf_dec (fun _ => ?_) (fun _ => ?_) <;> conv => whnf))
                        all_goals (first | (exfalso; omega) | contradiction | skip)
                        refine next_to (k + 1, y) (show m - (k + 1) < m - k by omega) ⟨(by omega : a + 1 + (k + 1) ≤ m), (hyn.trans (scS_f2 fun h => h.elim hA hlt2)).symm⟩ ?_
                        refine St.le.to ?_
                        conv => whnf
                        repeat' (first
                          | exact trivial
                          | exact rfl
                          | exact pureL_ints _ _
                          | exact Or.inl (And.intro rfl rfl)
                          | exact le_ints rfl
                          | exact pureL_ii _ _
                          | exact Or.inl (And.intro (pureL_oi _ _) rfl)
                          | refine Or.inr ?_
                          | refine And.intro ?_ ?_
                          | exact Nat.le_of_ble_eq_true rfl
                          | exact int_eq (by assumption))
                  · conv => whnf
                    repeat' (first
                      | (refine plan_in (id := 20) [0, 1, 2, 3, 4, 5, 6, 7, 8] (by kernel_rfl) (by kernel_rfl) ?_; conv => whnf)
                      | (refine aIf_t ?_; conv => whnf)
                      | (refine aIf_f ?_; conv => whnf)
                      | (refine fun (_ : _ ≤ maxLen) => ?_; conv => whnf)
                      | (refine aGet_in rfl ?_; conv => whnf)
                      | (refine And.intro (by omega) ?_; conv => whnf)
                      | (refine load_same ?_; conv => whnf)
                      | (refine And.intro (Nat.le_of_ble_eq_true rfl) ?_; conv => whnf)
                      | (refine callG_t ?_; conv => whnf)
                      | (refine append_same ?_; conv => whnf)
                      | (refine And.intro (pureL_ii _ _) ?_; conv => whnf)
                      | (refine cut_ii rfl ?_; conv => whnf)
                      | (refine l5Pair_call (by assumption) ?_; conv => whnf)
                      | (refine l5Own_call (by assumption) ?_; conv => whnf)
                      | (refine l5Narrow_call (by assumption) ?_; conv => whnf)
                      | (refine takeN_in ?_; conv => whnf)
                      | (refine And.intro (pureL_ints _ _) ?_; conv => whnf)
                      | (refine cut_ints ?_; conv => whnf)
                      | (refine l1Count_call ?_; conv => whnf)
                      | (refine And.intro (by kernel_rfl) ?_; conv => whnf)
                      | refine aIf_eqt ?_
                      | refine aIf_eqf ?_
                      | (refine aIf_dec (fun _ => ?_) (fun _ => ?_) <;> conv => whnf))
                    all_goals (first | (exfalso; omega) | contradiction | skip)
                    refine next_to (k + 1, y) (show m - (k + 1) < m - k by omega) ⟨(by omega : a + 1 + (k + 1) ≤ m), (hyn.trans (scS_f fun h => hn3 h)).symm⟩ ?_
                    refine St.le.to ?_
                    conv => whnf
                    repeat' (first
                      | exact trivial
                      | exact rfl
                      | exact pureL_ints _ _
                      | exact Or.inl (And.intro rfl rfl)
                      | exact le_ints rfl
                      | exact pureL_ii _ _
                      | exact Or.inl (And.intro (pureL_oi _ _) rfl)
                      | refine Or.inr ?_
                      | refine And.intro ?_ ?_
                      | exact Nat.le_of_ble_eq_true rfl
                      | exact int_eq (by assumption))
                · have hke : k = m - (a + 1) := by omega
                  subst hke
                  conv => whnf
                  repeat' (first
                    | (refine plan_in (id := 20) [0, 1, 2, 3, 4, 5, 6, 7, 8] (by kernel_rfl) (by kernel_rfl) ?_; conv => whnf)
                    | (refine fun (_ : _ ≤ maxLen) => ?_; conv => whnf)
                    | (refine aGet_in rfl ?_; conv => whnf)
                    | (refine And.intro (by omega) ?_; conv => whnf)
                    | (refine load_same ?_; conv => whnf)
                    | (refine callG_t ?_; conv => whnf)
                    | (refine append_same ?_; conv => whnf)
                    | (refine takeN_in ?_; conv => whnf)
                    | (refine aIf_dec (fun _ => ?_) (fun _ => ?_) <;> conv => whnf))
                  all_goals (first | (exfalso; omega) | contradiction | skip)
                  refine next_to (a + 1, y) (show m - (a + 1) < m - a by omega) ⟨(by omega : a + 1 ≤ m), hy⟩ ?_
                  refine St.le.to ?_
                  conv => whnf
                  repeat' (first
                    | exact trivial
                    | exact rfl
                    | exact pureL_ints _ _
                    | exact Or.inl (And.intro rfl rfl)
                    | exact le_ints rfl
                    | exact pureL_ii _ _
                    | exact Or.inl (And.intro (pureL_oi _ _) rfl)
                    | refine Or.inr ?_
                    | refine And.intro ?_ ?_
                    | exact Nat.le_of_ble_eq_true rfl
                    | exact int_eq (by assumption))
            · have hae : a = m := by omega
              have hxb : x.1 = bst (gT (zs, fs, o) i) := by rw [hx, hae, e0, ← hmm]; rfl
              by_cases hz0 : x.1 = []
              · have hz1 : x.1.length = 0 := by rw [hz0]; rfl
                conv => whnf
                repeat' (first
                  | (refine plan_in (id := 20) [0, 1, 2, 3, 4, 5, 6, 7, 8] (by kernel_rfl) (by kernel_rfl) ?_; conv => whnf)
                  | (refine fun (_ : _ ≤ maxLen) => ?_; conv => whnf)
                  | (refine aGet_in rfl ?_; conv => whnf)
                  | (refine And.intro (by omega) ?_; conv => whnf)
                  | (refine append_same ?_; conv => whnf)
                  | (refine aIf_dec (fun _ => ?_) (fun _ => ?_) <;> conv => whnf))
                all_goals (first | (exfalso; omega) | contradiction | skip)
                exact retG (gr_f (S := (zs, fs, o)) fun h => h.2 i (by show i < fs.length - 1; omega) (hxb.symm.trans hz0)) rfl rfl
              · have hok : okPr (zs, fs, o) x.1 := by rw [hxb]; have := bst_ok (S := gT (zs, fs, o) i) (by rw [← hxb]; exact hz0); rw [e0] at this ⊢; exact this
                have hz2 : x.1.length = 2 := hok.1
                have hr1 : 0 ≤ (x.1.getD (Int.toNat 0) 0) := hok.2.1.1
                have hr2 : (x.1.getD (Int.toNat 0) 0) < (x.1.getD (Int.toNat 1) 0) := hok.2.1.2.1
                have hr3 : (x.1.getD (Int.toNat 1) 0) < fs.length := hok.2.1.2.2
                have hp : prP zs fs o (x.1.getD (Int.toNat 0) 0) (x.1.getD (Int.toNat 1) 0) := okP_pr hT ⟨⟨by omega, by omega⟩, ⟨by omega, by omega⟩⟩
                have hW : mergeM zs fs o (x.1.getD (Int.toNat 0) 0) (x.1.getD (Int.toNat 1) 0) = gT (zs, fs, o) (i + 1) := by show _ = stp (gT (zs, fs, o) i) (bst (gT (zs, fs, o) i)); rw [← hxb, e0]; rfl
                have hgl : gL (zs, fs, o) (i + 1) = gL (zs, fs, o) i ++ [x.1] := by rw [hxb]; rfl
                conv => whnf
                repeat' (first
                  | (refine plan_in (id := 20) [0, 1, 2, 3, 4, 5, 6, 7, 8] (by kernel_rfl) (by kernel_rfl) ?_; conv => whnf)
                  | (refine fun (_ : _ ≤ maxLen) => ?_; conv => whnf)
                  | (refine aGet_in rfl ?_; conv => whnf)
                  | (refine append_same ?_; conv => whnf)
                  | (refine And.intro (And.intro (by kernel_rfl) (And.intro rfl (Nat.le_of_ble_eq_true rfl))) ?_; conv => whnf)
                  | (refine aIf_dec (fun _ => ?_) (fun _ => ?_) <;> conv => whnf))
                all_goals (first | (exfalso; omega) | contradiction | skip)
                refine append_ll rfl (by rw [List.length_map]) rfl rfl (by omega) (Nat.zero_le _) ?_
                conv => whnf
                repeat' (first
                  | (refine l5Merge_callW hp hW ?_; conv => whnf)
                  | (refine plan_in (id := 20) [0, 1, 2, 3, 4, 5, 6, 7, 8] (by kernel_rfl) (by kernel_rfl) ?_; conv => whnf)
                  | (refine get_int0 (by omega) ?_; conv => whnf)
                  | (refine And.intro (by omega) ?_; conv => whnf)
                  | (refine load_same ?_; conv => whnf)
                  | (refine And.intro (Nat.le_of_ble_eq_true rfl) ?_; conv => whnf)
                  | (refine append_same ?_; conv => whnf)
                  | (refine And.intro (pureL_ii _ _) ?_; conv => whnf)
                  | (refine takeN_in ?_; conv => whnf)
                  | (refine And.intro (pureL_ints _ _) ?_; conv => whnf)
                  | (refine set_force ?_; conv => whnf)
                  | (refine And.intro (by kernel_rfl) ?_; conv => whnf))
                all_goals (first | (exfalso; omega) | contradiction | skip)
                refine next_to (i + 1, false) (show fs.length - (i + 1) < fs.length - i by omega) ⟨(by omega : i + 1 < fs.length), gP_s hP (by rw [← hxb]; exact hz0), fun h => Bool.noConfusion h⟩ ?_
                refine to_close 2 (gL (zs, fs, o) i).length 3 _ _ 1 3 _ _ rfl ((List.getElem?_append_right (by rw [List.length_map]; omega)).trans (by rw [List.length_map, Nat.sub_self]; rfl)) rfl (by decide) (Nat.zero_le _) (by decide) (by simp) ?_
                refine to_force [true] ?_
                conv => whnf
                refine to_swap 3 5 [true] _ _ rfl rfl (by decide) (Nat.zero_le _) (Nat.zero_le _) ?_
                refine to_force [true] ?_
                conv => whnf
                refine to_swap 4 6 [true] _ _ rfl rfl (by decide) (Nat.zero_le _) (Nat.zero_le _) ?_
                refine to_force [true] ?_
                conv => whnf
                refine to_swap 5 7 [true] _ _ rfl rfl (by decide) (Nat.zero_le _) (Nat.zero_le _) ?_
                refine to_force [true] ?_
                conv => whnf
                refine St.le.to ?_
                conv => whnf
                repeat' (first | exact le_snocQ (xs := x.1) hgl | exact gl_len | refine And.intro ?_ ?_)
                repeat' (first
                  | exact trivial
                  | exact rfl
                  | exact Or.inl (And.intro rfl rfl)
                  | exact le_ints rfl
                  | exact Or.inl (And.intro (pureL_oi _ _) rfl)
                  | refine Or.inr ?_
                  | refine And.intro ?_ ?_
                  | exact Nat.le_of_ble_eq_true rfl
                  | exact List.length_append)
        · have he : i = fs.length - 1 := by omega
          conv => whnf
          repeat' (first
            | (refine plan_in (id := 20) [0, 1, 2, 3, 4, 5, 6, 7, 8] (by kernel_rfl) (by kernel_rfl) ?_; conv => whnf)
            | (refine fun (_ : _ ≤ maxLen) => ?_; conv => whnf)
            | (refine aGet_in rfl ?_; conv => whnf)
            | (refine And.intro (by omega) ?_; conv => whnf)
            | (refine append_same ?_; conv => whnf)
            | (refine aIf_dec (fun _ => ?_) (fun _ => ?_) <;> conv => whnf))
          all_goals (first | (exfalso; omega) | contradiction | skip)
          exact retG (by rw [he]; exact gr_t (S := (zs, fs, o)) ⟨hs, he ▸ hP⟩) rfl rfl
      | false =>
        have e0 : gT (zs, fs, o) i = gT (zs, fs, o) i := rfl
        obtain ⟨hT, hm⟩ := gT_ok hS i hP
        have hT : okS (gT (zs, fs, o) i) := hT
        have hm : (gT (zs, fs, o) i).2.1.length + i = fs.length := hm
        have h41 := hT.f4
        have h41 : (gT (zs, fs, o) i).2.1.length ≤ 4 := h41
        obtain ⟨m, hmm⟩ : ∃ m, (gT (zs, fs, o) i).2.1.length = m := ⟨_, rfl⟩
        by_cases hlt : 1 < m
        · have hgll := gL_len (zs, fs, o) i
          conv => whnf
          repeat' (first
            | (refine plan_in (id := 20) [0, 1, 2, 3, 4, 5, 6, 7, 8] (by kernel_rfl) (by kernel_rfl) ?_; conv => whnf)
            | (refine fun (_ : _ ≤ maxLen) => ?_; conv => whnf)
            | (refine aGet_in rfl ?_; conv => whnf)
            | (refine append_same ?_; conv => whnf)
            | (refine And.intro (And.intro (by kernel_rfl) (And.intro rfl (Nat.le_of_ble_eq_true rfl))) ?_; conv => whnf)
            | (refine aIf_dec (fun _ => ?_) (fun _ => ?_) <;> conv => whnf))
          all_goals (first | (exfalso; omega) | contradiction | skip)
          refine loop_to (ι := Nat × (List Int × Int)) (fun | (a, x) => ⟨[.un, .ptr 0 1 0, .un, .un, .ref 2 4 0 (gL (zs, fs, o) i).length, .ref 6 9 0 x.1.length, .int .i64 x.2, .int .i64 a, .un, .un, .un, .un, .un, .un, .un, .un, .un, .un, .un, .un, .un, .un, .un, .un, .un, .un, .un, .un, .un, .un, .un, .un, .un, .un, .un, .un, .un, .un, .un, .un, .un, .un, .un, .un, .un, .un, .un, .un, .un, .un, .un, .un, .un, .un, .un, .un, .un, .un, .un, .un, .un, .un, .un, .un, .un, .un, .un, .un, .un, .un, .un, .un, .un, .un, .un, .un], [⟨1, 29, 3, [.ref 3 5 0 (gT (zs, fs, o) i).1.length, .ref 4 6 0 (gT (zs, fs, o) i).2.1.length, .ref 5 7 0 (gT (zs, fs, o) i).2.2.length]⟩, ⟨2, 22, 1, []⟩, ⟨4, 22, 1, (gL (zs, fs, o) i).map (ownI 3)⟩, ⟨5, 3, 1, (gT (zs, fs, o) i).1.map (.int .i64)⟩, ⟨6, 22, 1, (gT (zs, fs, o) i).2.1.map (ownI 3)⟩, ⟨7, 3, 1, (gT (zs, fs, o) i).2.2.map (.int .i64)⟩, ⟨9, 3, 1, x.1.map (.int .i64)⟩], 12, 0⟩) (fun y => y.1 ≤ m ∧ y.2 = scL (gT (zs, fs, o) i) (prO m y.1)) (fun y => m - y.1) (0, ([], 0)) ⟨Nat.zero_le _, rfl⟩ ?_ ?_
          · refine St.le.to ?_
            conv => whnf
            repeat' (first
              | exact trivial
              | exact rfl
              | exact Or.inl (And.intro rfl rfl)
              | exact le_ints rfl
              | exact Or.inl (And.intro (pureL_oi _ _) rfl)
              | refine Or.inr ?_
              | refine And.intro ?_ ?_
              | exact Nat.le_of_ble_eq_true rfl)
          · rintro ⟨a, x⟩ ⟨ha, hx⟩
            have ha : a ≤ m := ha
            have hx : x = scL (gT (zs, fs, o) i) (prO m a) := hx
            by_cases hlta : a < m
            · have hwa : IntKind.i64.wrap ((a : Int) + 1) = ((a + 1 + 0 : Nat) : Int) := IntWalk.i64_in _ (by omega)
              have hwa2 : IntKind.i64.wrap ((a : Int) + 1) = ((a + 1 : Nat) : Int) := IntWalk.i64_in _ (by omega)
              conv => whnf
              repeat' (first
                | (refine plan_in (id := 20) [0, 1, 2, 3, 4, 5, 6, 7, 8] (by kernel_rfl) (by kernel_rfl) ?_; conv => whnf)
                | (refine fun (_ : _ ≤ maxLen) => ?_; conv => whnf)
                | (refine aGet_in rfl ?_; conv => whnf)
                | (refine And.intro (by omega) ?_; conv => whnf)
                | (refine append_same ?_; conv => whnf)
                | (refine aIf_dec (fun _ => ?_) (fun _ => ?_) <;> conv => whnf))
              all_goals (first | (exfalso; omega) | contradiction | skip)
              refine loop_to (ι := Nat × (List Int × Int)) (fun | (k, y) => ⟨[.un, .ptr 0 1 0, .un, .un, .ref 2 4 0 (gL (zs, fs, o) i).length, .ref 6 9 0 y.1.length, .int .i64 y.2, .int .i64 a, .int .i64 ((a + 1 + k : Nat) : Int), .un, .un, .un, .un, .un, .un, .un, .un, .un, .un, .un, .un, .un, .un, .un, .un, .un, .un, .un, .un, .un, .un, .un, .un, .un, .un, .un, .un, .un, .un, .un, .un, .un, .un, .un, .un, .un, .un, .un, .un, .un, .un, .un, .un, .un, .un, .un, .un, .un, .un, .un, .un, .un, .un, .un, .un, .un, .un, .un, .un, .un, .un, .un, .un, .un, .un, .un], [⟨1, 29, 3, [.ref 3 5 0 (gT (zs, fs, o) i).1.length, .ref 4 6 0 (gT (zs, fs, o) i).2.1.length, .ref 5 7 0 (gT (zs, fs, o) i).2.2.length]⟩, ⟨2, 22, 1, []⟩, ⟨4, 22, 1, (gL (zs, fs, o) i).map (ownI 3)⟩, ⟨5, 3, 1, (gT (zs, fs, o) i).1.map (.int .i64)⟩, ⟨6, 22, 1, (gT (zs, fs, o) i).2.1.map (ownI 3)⟩, ⟨7, 3, 1, (gT (zs, fs, o) i).2.2.map (.int .i64)⟩, ⟨9, 3, 1, y.1.map (.int .i64)⟩], 14, 0⟩) (fun u => a + 1 + u.1 ≤ m ∧ u.2 = scL (gT (zs, fs, o) i) (prO m a ++ prI a u.1)) (fun u => m - u.1) (0, x) ⟨(by omega : a + 1 + 0 ≤ m), hx.trans (by rw [show prI a 0 = [] from rfl, List.append_nil])⟩ ?_ ?_
              · refine St.le.to ?_
                conv => whnf
                repeat' (first
                  | exact trivial
                  | exact rfl
                  | exact Or.inl (And.intro rfl rfl)
                  | exact le_ints rfl
                  | exact Or.inl (And.intro (pureL_oi _ _) rfl)
                  | refine Or.inr ?_
                  | refine And.intro ?_ ?_
                  | exact Nat.le_of_ble_eq_true rfl
                  | exact int_eq (by assumption))
              · rintro ⟨k, y⟩ ⟨hk, hy⟩
                have hk : a + 1 + k ≤ m := hk
                have hy : y = scL (gT (zs, fs, o) i) (prO m a ++ prI a k) := hy
                have hyn : scL (gT (zs, fs, o) i) (prO m a ++ prI a (k + 1)) = scS (gT (zs, fs, o) i) y [(a : Int), ((a + 1 + k : Nat) : Int)] := by rw [show prI a (k + 1) = prI a k ++ [[(a : Int), ((a + 1 + k : Nat) : Int)]] from rfl, ← List.append_assoc, scL_snoc, hy]
                by_cases hltk : a + 1 + k < m
                · have hwk : IntKind.i64.wrap (((a + 1 + k : Nat) : Int) + 1) = ((a + 1 + (k + 1) : Nat) : Int) := IntWalk.i64_in _ (by omega)
                  have hp : prP (gT (zs, fs, o) i).1 (gT (zs, fs, o) i).2.1 (gT (zs, fs, o) i).2.2 (a : Int) ((a + 1 + k : Nat) : Int) := okP_pr hT ⟨⟨by omega, by omega⟩, ⟨by omega, by omega⟩⟩
                  have h2 := l5P_pr (a := (a : Int)) (b := ((a + 1 + k : Nat) : Int)) hT
                  have h2 : l5P (pairM (gT (zs, fs, o) i).1 (gT (zs, fs, o) i).2.1 (gT (zs, fs, o) i).2.2 (a : Int) ((a + 1 + k : Nat) : Int)).1 (pairM (gT (zs, fs, o) i).1 (gT (zs, fs, o) i).2.1 (gT (zs, fs, o) i).2.2 (a : Int) ((a + 1 + k : Nat) : Int)).2.1 (pairM (gT (zs, fs, o) i).1 (gT (zs, fs, o) i).2.1 (gT (zs, fs, o) i).2.2 (a : Int) ((a + 1 + k : Nat) : Int)).2.2 := h2
                  have hcst : cntTo (ownM (pairM (gT (zs, fs, o) i).1 (gT (zs, fs, o) i).2.1 (gT (zs, fs, o) i).2.2 (a : Int) ((a + 1 + k : Nat) : Int)).1 (pairM (gT (zs, fs, o) i).1 (gT (zs, fs, o) i).2.1 (gT (zs, fs, o) i).2.2 (a : Int) ((a + 1 + k : Nat) : Int)).2.1 (pairM (gT (zs, fs, o) i).1 (gT (zs, fs, o) i).2.1 (gT (zs, fs, o) i).2.2 (a : Int) ((a + 1 + k : Nat) : Int)).2.2).1 (ownM (pairM (gT (zs, fs, o) i).1 (gT (zs, fs, o) i).2.1 (gT (zs, fs, o) i).2.2 (a : Int) ((a + 1 + k : Nat) : Int)).1 (pairM (gT (zs, fs, o) i).1 (gT (zs, fs, o) i).2.1 (gT (zs, fs, o) i).2.2 (a : Int) ((a + 1 + k : Nat) : Int)).2.1 (pairM (gT (zs, fs, o) i).1 (gT (zs, fs, o) i).2.1 (gT (zs, fs, o) i).2.2 (a : Int) ((a + 1 + k : Nat) : Int)).2.2).1.length = bc (gT (zs, fs, o) i) [(a : Int), ((a + 1 + k : Nat) : Int)] := rfl
                  by_cases hn3 : (lfL (gT (zs, fs, o) i).1 (gT (zs, fs, o) i).2.1 (gT (zs, fs, o) i).2.2 (a : Int) ((a + 1 + k : Nat) : Int)).length ≤ 3
                  · have hn : nrw (gT (zs, fs, o) i) [(a : Int), ((a + 1 + k : Nat) : Int)] := hn3
                    by_cases hA : y.1 = []
                    · have hA2 : y.1.length = 0 := by rw [hA]; rfl
                      conv => whnf
                      repeat' (first
                        | (refine plan_in (id := 20) [0, 1, 2, 3, 4, 5, 6, 7, 8] (by kernel_rfl) (by kernel_rfl) ?_; conv => whnf)
                        | (refine aIf_t ?_; conv => whnf)
                        | (refine aIf_f ?_; conv => whnf)
                        | (refine fun (_ : _ ≤ maxLen) => ?_; conv => whnf)
                        | (refine aGet_in rfl ?_; conv => whnf)
                        | (refine And.intro (by omega) ?_; conv => whnf)
                        | (refine load_same ?_; conv => whnf)
                        | (refine And.intro (Nat.le_of_ble_eq_true rfl) ?_; conv => whnf)
                        | (refine callG_t ?_; conv => whnf)
                        | (refine append_same ?_; conv => whnf)
                        | (refine cut_ii rfl ?_; conv => whnf)
                        | (refine l5Pair_call (by assumption) ?_; conv => whnf)
                        | (refine l5Own_call (by assumption) ?_; conv => whnf)
                        | (refine l5Narrow_call (by assumption) ?_; conv => whnf)
                        | (refine takeN_in ?_; conv => whnf)
                        | (refine cut_ints ?_; conv => whnf)
                        | (refine l1Count_call ?_; conv => whnf)
                        | (refine And.intro (And.intro (by kernel_rfl) (And.intro rfl (Nat.le_of_ble_eq_true rfl))) ?_; conv => whnf)
                        | (refine And.intro (by kernel_rfl) ?_; conv => whnf)
                        | refine aIf_eqt ?_
                        | refine aIf_eqf ?_
                        | (refine aIf_dec (fun _ => ?_) (fun _ => ?_) <;> conv => whnf))
                      all_goals (first | (exfalso; omega) | contradiction | skip)
                      refine next_to (k + 1, ([(a : Int), ((a + 1 + k : Nat) : Int)], bc (gT (zs, fs, o) i) [(a : Int), ((a + 1 + k : Nat) : Int)])) (show m - (k + 1) < m - k by omega) ⟨(by omega : a + 1 + (k + 1) ≤ m), (hyn.trans (scS_t hn (.inl hA))).symm⟩ ?_
                      refine to_force [true] ?_
                      conv => whnf
                      refine to_swap 6 13 [true] _ _ rfl rfl (by decide) (Nat.zero_le _) (Nat.zero_le _) ?_
                      refine to_force [true] ?_
                      conv => whnf
                      refine St.le.to ?_
                      conv => whnf
                      repeat' (first
                        | exact trivial
                        | exact rfl
                        | exact Or.inl (And.intro rfl rfl)
                        | exact le_ints rfl
                        | exact Or.inl (And.intro (pureL_oi _ _) rfl)
                        | refine Or.inr ?_
                        | refine And.intro ?_ ?_
                        | exact Nat.le_of_ble_eq_true rfl
                        | exact int_eq (by assumption))
                    · have hA2 : 0 < y.1.length := List.length_pos_iff.2 hA
                      by_cases hlt2 : bc (gT (zs, fs, o) i) [(a : Int), ((a + 1 + k : Nat) : Int)] < y.2
                      · have hlt3 : cntTo (ownM (pairM (gT (zs, fs, o) i).1 (gT (zs, fs, o) i).2.1 (gT (zs, fs, o) i).2.2 (a : Int) ((a + 1 + k : Nat) : Int)).1 (pairM (gT (zs, fs, o) i).1 (gT (zs, fs, o) i).2.1 (gT (zs, fs, o) i).2.2 (a : Int) ((a + 1 + k : Nat) : Int)).2.1 (pairM (gT (zs, fs, o) i).1 (gT (zs, fs, o) i).2.1 (gT (zs, fs, o) i).2.2 (a : Int) ((a + 1 + k : Nat) : Int)).2.2).1 (ownM (pairM (gT (zs, fs, o) i).1 (gT (zs, fs, o) i).2.1 (gT (zs, fs, o) i).2.2 (a : Int) ((a + 1 + k : Nat) : Int)).1 (pairM (gT (zs, fs, o) i).1 (gT (zs, fs, o) i).2.1 (gT (zs, fs, o) i).2.2 (a : Int) ((a + 1 + k : Nat) : Int)).2.1 (pairM (gT (zs, fs, o) i).1 (gT (zs, fs, o) i).2.1 (gT (zs, fs, o) i).2.2 (a : Int) ((a + 1 + k : Nat) : Int)).2.2).1.length < y.2 := hlt2
                        conv => whnf
                        repeat' (first
                          | (refine plan_in (id := 20) [0, 1, 2, 3, 4, 5, 6, 7, 8] (by kernel_rfl) (by kernel_rfl) ?_; conv => whnf)
                          | (refine aIf_t ?_; conv => whnf)
                          | (refine aIf_f ?_; conv => whnf)
                          | (refine fun (_ : _ ≤ maxLen) => ?_; conv => whnf)
                          | (refine aGet_in rfl ?_; conv => whnf)
                          | (refine And.intro (by omega) ?_; conv => whnf)
                          | (refine load_same ?_; conv => whnf)
                          | (refine And.intro (Nat.le_of_ble_eq_true rfl) ?_; conv => whnf)
                          | (refine callG_t ?_; conv => whnf)
                          | (refine append_same ?_; conv => whnf)
                          | (refine cut_ii rfl ?_; conv => whnf)
                          | (refine l5Pair_call (by assumption) ?_; conv => whnf)
                          | (refine l5Own_call (by assumption) ?_; conv => whnf)
                          | (refine l5Narrow_call (by assumption) ?_; conv => whnf)
                          | (refine takeN_in ?_; conv => whnf)
                          | (refine cut_ints ?_; conv => whnf)
                          | (refine l1Count_call ?_; conv => whnf)
                          | (refine And.intro (And.intro (by kernel_rfl) (And.intro rfl (Nat.le_of_ble_eq_true rfl))) ?_; conv => whnf)
                          | (refine And.intro (by kernel_rfl) ?_; conv => whnf)
                          | refine aIf_eqt ?_
                          | refine aIf_eqf ?_
                          | (refine aIf_dec (fun _ => ?_) (fun _ => ?_) <;> conv => whnf))
                        all_goals (first | (exfalso; omega) | contradiction | skip)
                        refine next_to (k + 1, ([(a : Int), ((a + 1 + k : Nat) : Int)], bc (gT (zs, fs, o) i) [(a : Int), ((a + 1 + k : Nat) : Int)])) (show m - (k + 1) < m - k by omega) ⟨(by omega : a + 1 + (k + 1) ≤ m), (hyn.trans (scS_t hn (.inr hlt2))).symm⟩ ?_
                        refine to_force [true] ?_
                        conv => whnf
                        refine to_swap 6 13 [true] _ _ rfl rfl (by decide) (Nat.zero_le _) (Nat.zero_le _) ?_
                        refine to_force [true] ?_
                        conv => whnf
                        refine St.le.to ?_
                        conv => whnf
                        repeat' (first
                          | exact trivial
                          | exact rfl
                          | exact Or.inl (And.intro rfl rfl)
                          | exact le_ints rfl
                          | exact Or.inl (And.intro (pureL_oi _ _) rfl)
                          | refine Or.inr ?_
                          | refine And.intro ?_ ?_
                          | exact Nat.le_of_ble_eq_true rfl
                          | exact int_eq (by assumption))
                      · have hlt3 : ¬ cntTo (ownM (pairM (gT (zs, fs, o) i).1 (gT (zs, fs, o) i).2.1 (gT (zs, fs, o) i).2.2 (a : Int) ((a + 1 + k : Nat) : Int)).1 (pairM (gT (zs, fs, o) i).1 (gT (zs, fs, o) i).2.1 (gT (zs, fs, o) i).2.2 (a : Int) ((a + 1 + k : Nat) : Int)).2.1 (pairM (gT (zs, fs, o) i).1 (gT (zs, fs, o) i).2.1 (gT (zs, fs, o) i).2.2 (a : Int) ((a + 1 + k : Nat) : Int)).2.2).1 (ownM (pairM (gT (zs, fs, o) i).1 (gT (zs, fs, o) i).2.1 (gT (zs, fs, o) i).2.2 (a : Int) ((a + 1 + k : Nat) : Int)).1 (pairM (gT (zs, fs, o) i).1 (gT (zs, fs, o) i).2.1 (gT (zs, fs, o) i).2.2 (a : Int) ((a + 1 + k : Nat) : Int)).2.1 (pairM (gT (zs, fs, o) i).1 (gT (zs, fs, o) i).2.1 (gT (zs, fs, o) i).2.2 (a : Int) ((a + 1 + k : Nat) : Int)).2.2).1.length < y.2 := hlt2
                        conv => whnf
                        repeat' (first
                          | (refine plan_in (id := 20) [0, 1, 2, 3, 4, 5, 6, 7, 8] (by kernel_rfl) (by kernel_rfl) ?_; conv => whnf)
                          | (refine aIf_t ?_; conv => whnf)
                          | (refine aIf_f ?_; conv => whnf)
                          | (refine fun (_ : _ ≤ maxLen) => ?_; conv => whnf)
                          | (refine aGet_in rfl ?_; conv => whnf)
                          | (refine And.intro (by omega) ?_; conv => whnf)
                          | (refine load_same ?_; conv => whnf)
                          | (refine And.intro (Nat.le_of_ble_eq_true rfl) ?_; conv => whnf)
                          | (refine callG_t ?_; conv => whnf)
                          | (refine append_same ?_; conv => whnf)
                          | (refine cut_ii rfl ?_; conv => whnf)
                          | (refine l5Pair_call (by assumption) ?_; conv => whnf)
                          | (refine l5Own_call (by assumption) ?_; conv => whnf)
                          | (refine l5Narrow_call (by assumption) ?_; conv => whnf)
                          | (refine takeN_in ?_; conv => whnf)
                          | (refine cut_ints ?_; conv => whnf)
                          | (refine l1Count_call ?_; conv => whnf)
                          | (refine And.intro (by kernel_rfl) ?_; conv => whnf)
                          | refine aIf_eqt ?_
                          | refine aIf_eqf ?_
                          | (refine aIf_dec (fun _ => ?_) (fun _ => ?_) <;> conv => whnf))
                        all_goals (first | (exfalso; omega) | contradiction | skip)
                        refine next_to (k + 1, y) (show m - (k + 1) < m - k by omega) ⟨(by omega : a + 1 + (k + 1) ≤ m), (hyn.trans (scS_f2 fun h => h.elim hA hlt2)).symm⟩ ?_
                        refine St.le.to ?_
                        conv => whnf
                        repeat' (first
                          | exact trivial
                          | exact rfl
                          | exact Or.inl (And.intro rfl rfl)
                          | exact le_ints rfl
                          | exact Or.inl (And.intro (pureL_oi _ _) rfl)
                          | refine Or.inr ?_
                          | refine And.intro ?_ ?_
                          | exact Nat.le_of_ble_eq_true rfl
                          | exact int_eq (by assumption))
                  · conv => whnf
                    repeat' (first
                      | (refine plan_in (id := 20) [0, 1, 2, 3, 4, 5, 6, 7, 8] (by kernel_rfl) (by kernel_rfl) ?_; conv => whnf)
                      | (refine aIf_t ?_; conv => whnf)
                      | (refine aIf_f ?_; conv => whnf)
                      | (refine fun (_ : _ ≤ maxLen) => ?_; conv => whnf)
                      | (refine aGet_in rfl ?_; conv => whnf)
                      | (refine And.intro (by omega) ?_; conv => whnf)
                      | (refine load_same ?_; conv => whnf)
                      | (refine And.intro (Nat.le_of_ble_eq_true rfl) ?_; conv => whnf)
                      | (refine callG_t ?_; conv => whnf)
                      | (refine append_same ?_; conv => whnf)
                      | (refine cut_ii rfl ?_; conv => whnf)
                      | (refine l5Pair_call (by assumption) ?_; conv => whnf)
                      | (refine l5Own_call (by assumption) ?_; conv => whnf)
                      | (refine l5Narrow_call (by assumption) ?_; conv => whnf)
                      | (refine takeN_in ?_; conv => whnf)
                      | (refine cut_ints ?_; conv => whnf)
                      | (refine l1Count_call ?_; conv => whnf)
                      | (refine And.intro (by kernel_rfl) ?_; conv => whnf)
                      | refine aIf_eqt ?_
                      | refine aIf_eqf ?_
                      | (refine aIf_dec (fun _ => ?_) (fun _ => ?_) <;> conv => whnf))
                    all_goals (first | (exfalso; omega) | contradiction | skip)
                    refine next_to (k + 1, y) (show m - (k + 1) < m - k by omega) ⟨(by omega : a + 1 + (k + 1) ≤ m), (hyn.trans (scS_f fun h => hn3 h)).symm⟩ ?_
                    refine St.le.to ?_
                    conv => whnf
                    repeat' (first
                      | exact trivial
                      | exact rfl
                      | exact Or.inl (And.intro rfl rfl)
                      | exact le_ints rfl
                      | exact Or.inl (And.intro (pureL_oi _ _) rfl)
                      | refine Or.inr ?_
                      | refine And.intro ?_ ?_
                      | exact Nat.le_of_ble_eq_true rfl
                      | exact int_eq (by assumption))
                · have hke : k = m - (a + 1) := by omega
                  subst hke
                  conv => whnf
                  repeat' (first
                    | (refine plan_in (id := 20) [0, 1, 2, 3, 4, 5, 6, 7, 8] (by kernel_rfl) (by kernel_rfl) ?_; conv => whnf)
                    | (refine fun (_ : _ ≤ maxLen) => ?_; conv => whnf)
                    | (refine aGet_in rfl ?_; conv => whnf)
                    | (refine And.intro (by omega) ?_; conv => whnf)
                    | (refine load_same ?_; conv => whnf)
                    | (refine callG_t ?_; conv => whnf)
                    | (refine append_same ?_; conv => whnf)
                    | (refine cut_ii rfl ?_; conv => whnf)
                    | (refine takeN_in ?_; conv => whnf)
                    | (refine cut_ints ?_; conv => whnf)
                    | (refine aIf_dec (fun _ => ?_) (fun _ => ?_) <;> conv => whnf))
                  all_goals (first | (exfalso; omega) | contradiction | skip)
                  refine next_to (a + 1, y) (show m - (a + 1) < m - a by omega) ⟨(by omega : a + 1 ≤ m), hy⟩ ?_
                  refine St.le.to ?_
                  conv => whnf
                  repeat' (first
                    | exact trivial
                    | exact rfl
                    | exact Or.inl (And.intro rfl rfl)
                    | exact le_ints rfl
                    | exact Or.inl (And.intro (pureL_oi _ _) rfl)
                    | refine Or.inr ?_
                    | refine And.intro ?_ ?_
                    | exact Nat.le_of_ble_eq_true rfl
                    | exact int_eq (by assumption))
            · have hae : a = m := by omega
              have hxb : x.1 = bst (gT (zs, fs, o) i) := by rw [hx, hae, e0, ← hmm]; rfl
              by_cases hz0 : x.1 = []
              · have hz1 : x.1.length = 0 := by rw [hz0]; rfl
                conv => whnf
                repeat' (first
                  | (refine plan_in (id := 20) [0, 1, 2, 3, 4, 5, 6, 7, 8] (by kernel_rfl) (by kernel_rfl) ?_; conv => whnf)
                  | (refine fun (_ : _ ≤ maxLen) => ?_; conv => whnf)
                  | (refine aGet_in rfl ?_; conv => whnf)
                  | (refine And.intro (by omega) ?_; conv => whnf)
                  | (refine append_same ?_; conv => whnf)
                  | (refine aIf_dec (fun _ => ?_) (fun _ => ?_) <;> conv => whnf))
                all_goals (first | (exfalso; omega) | contradiction | skip)
                exact retG (gr_f (S := (zs, fs, o)) fun h => h.2 i (by show i < fs.length - 1; omega) (hxb.symm.trans hz0)) rfl rfl
              · have hok : okPr (gT (zs, fs, o) i) x.1 := by rw [hxb]; exact bst_ok (by rw [← hxb]; exact hz0)
                have hz2 : x.1.length = 2 := hok.1
                have hr1 : 0 ≤ (x.1.getD (Int.toNat 0) 0) := hok.2.1.1
                have hr2 : (x.1.getD (Int.toNat 0) 0) < (x.1.getD (Int.toNat 1) 0) := hok.2.1.2.1
                have hr3 : (x.1.getD (Int.toNat 1) 0) < (gT (zs, fs, o) i).2.1.length := hok.2.1.2.2
                have hp : prP (gT (zs, fs, o) i).1 (gT (zs, fs, o) i).2.1 (gT (zs, fs, o) i).2.2 (x.1.getD (Int.toNat 0) 0) (x.1.getD (Int.toNat 1) 0) := okP_pr hT ⟨⟨by omega, by omega⟩, ⟨by omega, by omega⟩⟩
                have hW : mergeM (gT (zs, fs, o) i).1 (gT (zs, fs, o) i).2.1 (gT (zs, fs, o) i).2.2 (x.1.getD (Int.toNat 0) 0) (x.1.getD (Int.toNat 1) 0) = gT (zs, fs, o) (i + 1) := by show _ = stp (gT (zs, fs, o) i) (bst (gT (zs, fs, o) i)); rw [← hxb]; rfl
                have hgl : gL (zs, fs, o) (i + 1) = gL (zs, fs, o) i ++ [x.1] := by rw [hxb]; rfl
                conv => whnf
                repeat' (first
                  | (refine plan_in (id := 20) [0, 1, 2, 3, 4, 5, 6, 7, 8] (by kernel_rfl) (by kernel_rfl) ?_; conv => whnf)
                  | (refine fun (_ : _ ≤ maxLen) => ?_; conv => whnf)
                  | (refine aGet_in rfl ?_; conv => whnf)
                  | (refine append_same ?_; conv => whnf)
                  | (refine And.intro (And.intro (by kernel_rfl) (And.intro rfl (Nat.le_of_ble_eq_true rfl))) ?_; conv => whnf)
                  | (refine aIf_dec (fun _ => ?_) (fun _ => ?_) <;> conv => whnf))
                all_goals (first | (exfalso; omega) | contradiction | skip)
                refine append_ll rfl (by rw [List.length_map]) rfl rfl (by omega) (Nat.zero_le _) ?_
                conv => whnf
                repeat' (first
                  | (refine l5Merge_callW hp hW ?_; conv => whnf)
                  | (refine plan_in (id := 20) [0, 1, 2, 3, 4, 5, 6, 7, 8] (by kernel_rfl) (by kernel_rfl) ?_; conv => whnf)
                  | (refine get_int0 (by omega) ?_; conv => whnf)
                  | (refine And.intro (by omega) ?_; conv => whnf)
                  | (refine load_same ?_; conv => whnf)
                  | (refine And.intro (Nat.le_of_ble_eq_true rfl) ?_; conv => whnf)
                  | (refine append_same ?_; conv => whnf)
                  | (refine cut_ii rfl ?_; conv => whnf)
                  | (refine takeN_in ?_; conv => whnf)
                  | (refine cut_ints ?_; conv => whnf)
                  | (refine set_force ?_; conv => whnf)
                  | (refine And.intro (by kernel_rfl) ?_; conv => whnf))
                all_goals (first | (exfalso; omega) | contradiction | skip)
                refine next_to (i + 1, false) (show fs.length - (i + 1) < fs.length - i by omega) ⟨(by omega : i + 1 < fs.length), gP_s hP (by rw [← hxb]; exact hz0), fun h => Bool.noConfusion h⟩ ?_
                refine to_close 2 (gL (zs, fs, o) i).length 6 _ _ 1 3 _ _ rfl ((List.getElem?_append_right (by rw [List.length_map]; omega)).trans (by rw [List.length_map, Nat.sub_self]; rfl)) rfl (by decide) (Nat.zero_le _) (by decide) (by simp) ?_
                refine to_force [true] ?_
                conv => whnf
                refine to_swap 3 8 [true] _ _ rfl rfl (by decide) (Nat.zero_le _) (Nat.zero_le _) ?_
                refine to_force [true] ?_
                conv => whnf
                refine to_swap 4 9 [true] _ _ rfl rfl (by decide) (Nat.zero_le _) (Nat.zero_le _) ?_
                refine to_force [true] ?_
                conv => whnf
                refine to_swap 5 10 [true] _ _ rfl rfl (by decide) (Nat.zero_le _) (Nat.zero_le _) ?_
                refine to_force [true] ?_
                conv => whnf
                refine St.le.to ?_
                conv => whnf
                repeat' (first | exact le_snocQ (xs := x.1) hgl | exact gl_len | refine And.intro ?_ ?_)
                repeat' (first
                  | exact trivial
                  | exact rfl
                  | exact Or.inl (And.intro rfl rfl)
                  | exact le_ints rfl
                  | exact Or.inl (And.intro (pureL_oi _ _) rfl)
                  | refine Or.inr ?_
                  | refine And.intro ?_ ?_
                  | exact Nat.le_of_ble_eq_true rfl
                  | exact List.length_append)
        · have he : i = fs.length - 1 := by omega
          conv => whnf
          repeat' (first
            | (refine plan_in (id := 20) [0, 1, 2, 3, 4, 5, 6, 7, 8] (by kernel_rfl) (by kernel_rfl) ?_; conv => whnf)
            | (refine fun (_ : _ ≤ maxLen) => ?_; conv => whnf)
            | (refine aGet_in rfl ?_; conv => whnf)
            | (refine And.intro (by omega) ?_; conv => whnf)
            | (refine append_same ?_; conv => whnf)
            | (refine aIf_dec (fun _ => ?_) (fun _ => ?_) <;> conv => whnf))
          all_goals (first | (exfalso; omega) | contradiction | skip)
          exact retG (by rw [he]; exact gr_t (S := (zs, fs, o)) ⟨hs, he ▸ hP⟩) rfl rfl
  · conv => whnf
    repeat' (first
      | (refine plan_in (id := 20) [0, 1, 2, 3, 4, 5, 6, 7, 8] (by kernel_rfl) (by kernel_rfl) ?_; conv => whnf)
      | (refine load_same ?_; conv => whnf)
      | (refine And.intro rfl (And.intro (List.cons_ne_nil _ _) ?_); conv => whnf)
      | (refine And.intro (Nat.le_of_ble_eq_true rfl) ?_; conv => whnf)
      | (refine callG_t ?_; conv => whnf)
      | (refine append_same ?_; conv => whnf)
      | (refine And.intro (pureL_ii _ _) ?_; conv => whnf)
      | (refine sSumOk_call trivial ?_; conv => whnf)
      | (refine takeN_in ?_; conv => whnf)
      | (refine And.intro (pureL_ints _ _) ?_; conv => whnf)
      | (refine And.intro (And.intro (by kernel_rfl) (And.intro rfl (Nat.le_of_ble_eq_true rfl))) ?_; conv => whnf)
      | (refine And.intro (by kernel_rfl) ?_; conv => whnf)
      | refine aIf_not ?_
      | (refine aIf_dec (fun _ => ?_) (fun _ => ?_) <;> conv => whnf))
    all_goals (first | (exfalso; omega) | contradiction | skip)
    exact retG (gr_f (S := (zs, fs, o)) fun h => hs h.1) rfl rfl
end Go.Proofs.Ytmgggbgejdkamaa
