import Derived.Test.YtmgggbgejdkamaaM01x24
import Derived.Test.YtmgggbgejdkamaaM01x21
import Derived.Test.YtmgggbgejdkamaaM01x19
/- Chapter 5: orders, of the model. -/
namespace Go.Proofs.Ytmgggbgejdkamaa
set_option maxRecDepth 20000
open Go.RowKit Go.Am
set_option linter.unusedSimpArgs false
attribute [local irreducible] aPlan aGet aIf aLoop aCall RetB NextB CallB CallG aCut aSet aAppend
theorem l5P_pr {S : Sm} {a b : Int} (h : okS S) : l5P (pairM S.1 S.2.1 S.2.2 a b).1 (pairM S.1 S.2.1 S.2.2 a b).2.1 (pairM S.1 S.2.1 S.2.2 a b).2.2 := by
  have h5 := h.z5
  have hl := lfTo_len S.2.1 S.2.2 a b S.1.length
  have hl : (lfL S.1 S.2.1 S.2.2 a b).length ≤ S.1.length := hl
  refine ⟨h5, Nat.le_of_ble_eq_true rfl, fun k hk => ?_, by show (lfL S.1 S.2.1 S.2.2 a b).length ≤ 1000; omega, difP_in (lfL_dif _ _ _ _ _)⟩
  have hk : k < 2 := hk
  match k, hk with
  | 0, _ => have := letP_at h a.toNat; exact ⟨by have := this.1; show (S.2.1.getD a.toNat []).length ≤ 1000; omega, difP_in this.2⟩
  | 1, _ => have := letP_at h b.toNat; exact ⟨by have := this.1; show (S.2.1.getD b.toNat []).length ≤ 1000; omega, difP_in this.2⟩
def l5M (S : Sm) (ps : List (List Int)) : Int × Bool := if orP S ps ps.length then (orC S ps ps.length, decide ((orS S ps ps.length).2.1.length = 1)) else (0, false)
theorem l5_f {S : Sm} {ps : List (List Int)} {i : Nat} (hi : i < ps.length) (h : ¬ okPr (orS S ps i) (ps.getD i [])) : l5M S ps = (0, false) := if_neg fun h' => h (h' i hi)
theorem l5_t {S : Sm} {ps : List (List Int)} (h : orP S ps ps.length) : l5M S ps = (orC S ps ps.length, decide ((orS S ps ps.length).2.1.length = 1)) := if_pos h
theorem beq_one (n : Nat) : decide (n = 1) = ((n : Int) == 1) := by
  by_cases h : n = 1
  · subst h; rfl
  · rw [decide_eq_false h]; symm; rw [beq_eq_false_iff_ne]; omega
set_option maxHeartbeats 16000000 in
theorem l5Order_sound : Sound Try.prog 64 (fnIB (ι := IS × Nat × List (List Int)) (fun | ((c, zs, d, fs, e, o), g, ps) => [.agg [.sl c zs.length (zs.map (.int .i64)), .sl d fs.length (fs.map (slI d)), .sl e o.length (o.map (.int .i64))], .sl g ps.length (ps.map (slI g))]) (fun | ((_, zs, _, fs, _, o), _, _) => okP zs fs o) (fun | ((_, zs, _, fs, _, o), _, ps) => l5M (zs, fs, o) ps)) := by
  refine sound_of Try.func64 rfl (enters_of Try.func64 (by kernel_rfl) (by kernel_rfl)) ?_
  rintro ⟨⟨c, zs, d, fs, q, o⟩, g, ps⟩ hpre
  have hS : okS (zs, fs, o) := hpre
  have hmax : maxLen = 9223372036854775807 := rfl
  conv => whnf
  repeat' (first
    | (refine plan_in (id := 5) [0, 1, 2, 3, 4, 5, 6, 7, 8, 9, 10, 11, 12, 13, 14, 15, 16, 17, 18, 19, 20, 21, 22, 23, 24, 25, 26, 27, 28, 29, 30, 31, 32, 33, 34, 35, 36, 37, 38, 39, 40, 41, 42, 43, 44, 45, 46, 47, 48, 49, 50, 51, 52, 53] (by kernel_rfl) (by kernel_rfl) ?_; conv => whnf)
    | (refine plan_in (id := 7) [0, 1, 2, 3, 4, 5, 6, 7, 8, 9, 10, 11, 12, 13, 14, 15, 16, 17, 18, 19] (by kernel_rfl) (by kernel_rfl) ?_; conv => whnf)
    | (refine plan_in (id := 8) [0, 1, 2, 3, 4, 5, 6, 7, 8, 9, 10, 11, 12, 13, 14] (by kernel_rfl) (by kernel_rfl) ?_; conv => whnf)
    | (refine plan_in (id := 9) [0, 1, 2, 3, 4, 5, 6] (by kernel_rfl) (by kernel_rfl) ?_; conv => whnf)
    | (refine And.intro rfl (And.intro (List.cons_ne_nil _ _) ?_); conv => whnf)
    | (refine append_same ?_; conv => whnf))
  refine loop_to (ι := Nat × Bool) (fun | (i, true) => ⟨[.un, .sl g ps.length (ps.map (slI g)), .ptr 0 1 0, .un, .un, .un, .int .i64 (orC (zs, fs, o) ps i), .int .i64 i, .un, .un, .un, .un, .un, .un, .un, .un, .un, .un, .un, .un, .un, .un, .un, .un, .un, .un, .un, .un, .un, .un, .un, .un, .un, .un, .un, .un, .un, .un, .un, .un, .un, .un, .un, .un, .un, .un, .un, .un, .un, .un, .un, .un, .un, .un, .un, .un, .un, .un, .un, .un, .un, .un, .un, .un, .un, .un, .un, .un, .un, .un, .un, .un, .un, .un, .un, .un, .un, .un, .un, .un, .un, .un, .un, .un, .un, .un, .un, .un, .un, .un, .un, .un, .un, .un, .un, .un, .un, .un, .un, .un, .un, .un, .un, .un, .un, .un], [⟨1, 29, 3, [.sl c zs.length (zs.map (.int .i64)), .sl d fs.length (fs.map (slI d)), .sl q o.length (o.map (.int .i64))]⟩], 9, 0⟩ | (i, false) => ⟨[.un, .sl g ps.length (ps.map (slI g)), .ptr 0 1 0, .un, .un, .un, .int .i64 (orC (zs, fs, o) ps i), .int .i64 i, .un, .un, .un, .un, .un, .un, .un, .un, .un, .un, .un, .un, .un, .un, .un, .un, .un, .un, .un, .un, .un, .un, .un, .un, .un, .un, .un, .un, .un, .un, .un, .un, .un, .un, .un, .un, .un, .un, .un, .un, .un, .un, .un, .un, .un, .un, .un, .un, .un, .un, .un, .un, .un, .un, .un, .un, .un, .un, .un, .un, .un, .un, .un, .un, .un, .un, .un, .un, .un, .un, .un, .un, .un, .un, .un, .un, .un, .un, .un, .un, .un, .un, .un, .un, .un, .un, .un, .un, .un, .un, .un, .un, .un, .un, .un, .un, .un, .un], [⟨1, 29, 3, [.ref 1 2 0 (orS (zs, fs, o) ps i).1.length, .ref 2 3 0 (orS (zs, fs, o) ps i).2.1.length, .ref 3 4 0 (orS (zs, fs, o) ps i).2.2.length]⟩, ⟨2, 3, 1, (orS (zs, fs, o) ps i).1.map (.int .i64)⟩, ⟨3, 22, 1, (orS (zs, fs, o) ps i).2.1.map (ownI 3)⟩, ⟨4, 3, 1, (orS (zs, fs, o) ps i).2.2.map (.int .i64)⟩], 9, 0⟩) (fun x => x.1 ≤ ps.length ∧ orP (zs, fs, o) ps x.1 ∧ (x.2 = true → x.1 = 0)) (fun x => ps.length - x.1) (0, true) ⟨Nat.zero_le _, orP_0 _ _, fun _ => rfl⟩ ?_ ?_
  · refine St.le.to ?_
    conv => whnf
    repeat' (first
      | exact trivial
      | exact rfl
      | exact pureL_ints _ _
      | exact pureL_ii _ _
      | refine Or.inr ?_
      | refine And.intro ?_ ?_
      | exact Nat.le_of_ble_eq_true rfl)
  · rintro ⟨i, first⟩ hi
    obtain ⟨hi, hP, hz⟩ := hi
    have hi : i ≤ ps.length := hi
    have hP : orP (zs, fs, o) ps i := hP
    have hT := orS_ok hS i hP
    cases first with
    | true =>
      have e0 : orS (zs, fs, o) ps i = (zs, fs, o) := by rw [show i = 0 from hz rfl]; rfl
      have hT : okS (zs, fs, o) := hS
      have h4 : fs.length ≤ 4 := hT.f4
      have h1 : 1 ≤ fs.length := hT.f1
      by_cases hlt : i < ps.length
      · have hw2 : IntKind.i64.wrap ((fs.length : Int) - 1) = fs.length - 1 := IntWalk.i64_in _ (by omega)
        have hwb : (0 ≤ ((ps.getD i []).getD (Int.toNat 1) 0) ∧ ((ps.getD i []).getD (Int.toNat 1) 0) < fs.length) → IntKind.i64.wrap (((ps.getD i []).getD (Int.toNat 1) 0) - 1) = ((ps.getD i []).getD (Int.toNat 1) 0) - 1 := fun h => IntWalk.i64_in _ (by omega)
        have hW : mergeM zs fs o ((ps.getD i []).getD (Int.toNat 0) 0) ((ps.getD i []).getD (Int.toNat 1) 0) = orS (zs, fs, o) ps (i + 1) := by rw [show orS (zs, fs, o) ps (i + 1) = stp (orS (zs, fs, o) ps i) (ps.getD i []) from rfl, e0]; rfl
        have hc : IntKind.i64.wrap (orC (zs, fs, o) ps i + cntTo (ownM (pairM zs fs o ((ps.getD i []).getD (Int.toNat 0) 0) ((ps.getD i []).getD (Int.toNat 1) 0)).1 (pairM zs fs o ((ps.getD i []).getD (Int.toNat 0) 0) ((ps.getD i []).getD (Int.toNat 1) 0)).2.1 (pairM zs fs o ((ps.getD i []).getD (Int.toNat 0) 0) ((ps.getD i []).getD (Int.toNat 1) 0)).2.2).1 (ownM (pairM zs fs o ((ps.getD i []).getD (Int.toNat 0) 0) ((ps.getD i []).getD (Int.toNat 1) 0)).1 (pairM zs fs o ((ps.getD i []).getD (Int.toNat 0) 0) ((ps.getD i []).getD (Int.toNat 1) 0)).2.1 (pairM zs fs o ((ps.getD i []).getD (Int.toNat 0) 0) ((ps.getD i []).getD (Int.toNat 1) 0)).2.2).1.length) = orC (zs, fs, o) ps (i + 1) := by rw [show orC (zs, fs, o) ps (i + 1) = IntKind.i64.wrap (orC (zs, fs, o) ps i + cst (orS (zs, fs, o) ps i) ((ps.getD i []).getD 0 0) ((ps.getD i []).getD 1 0)) from rfl, e0]; rfl
        conv => whnf
        repeat' (first
          | (refine l5Narrow_call (okP_pr hT (by omega)) ?_; conv => whnf)
          | (refine l5Pair_call (okP_pr hT (by omega)) ?_; conv => whnf)
          | (refine l5Own_call (l5P_pr (S := (zs, fs, o)) hT) ?_; conv => whnf)
          | (refine l5Merge_callW (okP_pr hT (by omega)) hW ?_; conv => whnf)
          | (refine plan_in (id := 5) [0, 1, 2, 3, 4, 5, 6, 7, 8, 9, 10, 11, 12, 13, 14, 15, 16, 17, 18, 19, 20, 21, 22, 23, 24, 25, 26, 27, 28, 29, 30, 31, 32, 33, 34, 35, 36, 37, 38, 39, 40, 41, 42, 43, 44, 45, 46, 47, 48, 49, 50, 51, 52, 53] (by kernel_rfl) (by kernel_rfl) ?_; conv => whnf)
          | (refine plan_in (id := 7) [0, 1, 2, 3, 4, 5, 6, 7, 8, 9, 10, 11, 12, 13, 14, 15, 16, 17, 18, 19] (by kernel_rfl) (by kernel_rfl) ?_; conv => whnf)
          | (refine plan_in (id := 8) [0, 1, 2, 3, 4, 5, 6, 7, 8, 9, 10, 11, 12, 13, 14] (by kernel_rfl) (by kernel_rfl) ?_; conv => whnf)
          | (refine plan_in (id := 9) [0, 1, 2, 3, 4, 5, 6] (by kernel_rfl) (by kernel_rfl) ?_; conv => whnf)
          | (refine aIf_t ?_; conv => whnf)
          | (refine aIf_f ?_; conv => whnf)
          | (refine fun (_ : _ ≤ maxLen) => ?_; conv => whnf)
          | (refine get_int (by omega) ?_; conv => whnf)
          | (refine aGet_in rfl ?_; conv => whnf)
          | (refine And.intro (by omega) ?_; conv => whnf)
          | (refine load_same ?_; conv => whnf)
          | (refine And.intro (Nat.le_of_ble_eq_true rfl) ?_; conv => whnf)
          | (refine append_same ?_; conv => whnf)
          | (refine get_ii_n (by omega) ?_; conv => whnf)
          | (refine And.intro (pureL_ii _ _) ?_; conv => whnf)
          | (refine cut_ii rfl ?_; conv => whnf)
          | (refine takeN_in ?_; conv => whnf)
          | (refine And.intro (pureL_ints _ _) ?_; conv => whnf)
          | (refine cut_ints ?_; conv => whnf)
          | (refine in_call ?_; conv => whnf)
          | (refine l1Count_call ?_; conv => whnf)
          | (refine set_force ?_; conv => whnf)
          | (refine And.intro (by kernel_rfl) ?_; conv => whnf)
          | refine aIf_eqf ?_
          | refine aIf_not ?_
          | (refine aIf_dec (fun _ => ?_) (fun _ => ?_) <;> conv => whnf))
        all_goals (first | (exfalso; omega) | contradiction | skip)
        all_goals first
          | (have hf : ¬ okPr (orS (zs, fs, o) ps i) (ps.getD i []) := by
               rw [e0]; intro h
               have q1 : (ps.getD i []).length = 2 := h.1
               have q2 : 0 ≤ ((ps.getD i []).getD (Int.toNat 0) 0) := h.2.1.1
               have q3 : ((ps.getD i []).getD (Int.toNat 0) 0) < ((ps.getD i []).getD (Int.toNat 1) 0) := h.2.1.2.1
               have q4 : ((ps.getD i []).getD (Int.toNat 1) 0) < fs.length := h.2.1.2.2
               have q5 : (lfL zs fs o ((ps.getD i []).getD (Int.toNat 0) 0) ((ps.getD i []).getD (Int.toNat 1) 0)).length ≤ 3 := h.2.2
               omega
             exact retIB (l5_f (S := (zs, fs, o)) (ps := ps) (i := i) hlt hf))
          | skip
        have hP2 : okPr (orS (zs, fs, o) ps i) (ps.getD i []) := by rw [e0]; exact ⟨by omega, ⟨by show 0 ≤ ((ps.getD i []).getD (Int.toNat 0) 0); omega, by show ((ps.getD i []).getD (Int.toNat 0) 0) < ((ps.getD i []).getD (Int.toNat 1) 0); omega, by show ((ps.getD i []).getD (Int.toNat 1) 0) < fs.length; omega⟩, by show (lfL zs fs o ((ps.getD i []).getD (Int.toNat 0) 0) ((ps.getD i []).getD (Int.toNat 1) 0)).length ≤ 3; omega⟩
        refine next_to (i + 1, false) (show ps.length - (i + 1) < ps.length - i by omega) ⟨(by omega : i + 1 ≤ ps.length), orP_s hP hP2, fun h => Bool.noConfusion h⟩ ?_
        refine to_force [true] ?_
        conv => whnf
        refine to_swap 1 7 [true] _ _ rfl rfl (by decide) (Nat.zero_le _) (Nat.zero_le _) ?_
        refine to_force [true] ?_
        conv => whnf
        refine to_swap 2 8 [true] _ _ rfl rfl (by decide) (Nat.zero_le _) (Nat.zero_le _) ?_
        refine to_force [true] ?_
        conv => whnf
        refine to_swap 3 9 [true] _ _ rfl rfl (by decide) (Nat.zero_le _) (Nat.zero_le _) ?_
        refine to_force [true] ?_
        conv => whnf
        refine St.le.to ?_
        conv => whnf
        repeat' (first
          | exact trivial
          | exact rfl
          | exact le_ints rfl
          | exact pureL_ii _ _
          | exact Or.inl (And.intro (pureL_oi _ _) rfl)
          | refine Or.inr ?_
          | refine And.intro ?_ ?_
          | exact Nat.le_of_ble_eq_true rfl
          | exact int_eq (by assumption)
          | exact int_eq (by rw [IntWalk.i64_in _ (by omega)] <;> omega))
      · have he : i = ps.length := by omega
        have eb := beq_one fs.length
        conv => whnf
        repeat' (first
          | (refine plan_in (id := 5) [0, 1, 2, 3, 4, 5, 6, 7, 8, 9, 10, 11, 12, 13, 14, 15, 16, 17, 18, 19, 20, 21, 22, 23, 24, 25, 26, 27, 28, 29, 30, 31, 32, 33, 34, 35, 36, 37, 38, 39, 40, 41, 42, 43, 44, 45, 46, 47, 48, 49, 50, 51, 52, 53] (by kernel_rfl) (by kernel_rfl) ?_; conv => whnf)
          | (refine plan_in (id := 7) [0, 1, 2, 3, 4, 5, 6, 7, 8, 9, 10, 11, 12, 13, 14, 15, 16, 17, 18, 19] (by kernel_rfl) (by kernel_rfl) ?_; conv => whnf)
          | (refine plan_in (id := 8) [0, 1, 2, 3, 4, 5, 6, 7, 8, 9, 10, 11, 12, 13, 14] (by kernel_rfl) (by kernel_rfl) ?_; conv => whnf)
          | (refine plan_in (id := 9) [0, 1, 2, 3, 4, 5, 6] (by kernel_rfl) (by kernel_rfl) ?_; conv => whnf)
          | (refine aIf_t ?_; conv => whnf)
          | (refine aIf_f ?_; conv => whnf)
          | (refine fun (_ : _ ≤ maxLen) => ?_; conv => whnf)
          | (refine get_nat (by omega) ?_; conv => whnf)
          | (refine aGet_in rfl ?_; conv => whnf)
          | (refine And.intro (by omega) ?_; conv => whnf)
          | (refine load_same ?_; conv => whnf)
          | (refine append_same ?_; conv => whnf)
          | (refine get_ii_n (by omega) ?_; conv => whnf)
          | (refine takeN_in ?_; conv => whnf)
          | (refine in_call ?_; conv => whnf)
          | refine aIf_eqf ?_
          | refine aIf_not ?_
          | (refine aIf_dec (fun _ => ?_) (fun _ => ?_) <;> conv => whnf))
        all_goals (first | (exfalso; omega) | contradiction | skip)
        exact retIB ((l5_t (he ▸ hP)).trans (by rw [← he, e0]; exact congrArg (Prod.mk _) eb))
    | false =>
      have e0 : orS (zs, fs, o) ps i = (orS (zs, fs, o) ps i) := rfl
      have h4 : (orS (zs, fs, o) ps i).2.1.length ≤ 4 := hT.f4
      have h1 : 1 ≤ (orS (zs, fs, o) ps i).2.1.length := hT.f1
      by_cases hlt : i < ps.length
      · have hw2 : IntKind.i64.wrap (((orS (zs, fs, o) ps i).2.1.length : Int) - 1) = (orS (zs, fs, o) ps i).2.1.length - 1 := IntWalk.i64_in _ (by omega)
        have hwb : (0 ≤ ((ps.getD i []).getD (Int.toNat 1) 0) ∧ ((ps.getD i []).getD (Int.toNat 1) 0) < (orS (zs, fs, o) ps i).2.1.length) → IntKind.i64.wrap (((ps.getD i []).getD (Int.toNat 1) 0) - 1) = ((ps.getD i []).getD (Int.toNat 1) 0) - 1 := fun h => IntWalk.i64_in _ (by omega)
        have hW : mergeM (orS (zs, fs, o) ps i).1 (orS (zs, fs, o) ps i).2.1 (orS (zs, fs, o) ps i).2.2 ((ps.getD i []).getD (Int.toNat 0) 0) ((ps.getD i []).getD (Int.toNat 1) 0) = orS (zs, fs, o) ps (i + 1) := by rw [show orS (zs, fs, o) ps (i + 1) = stp (orS (zs, fs, o) ps i) (ps.getD i []) from rfl, e0]; rfl
        have hc : IntKind.i64.wrap (orC (zs, fs, o) ps i + cntTo (ownM (pairM (orS (zs, fs, o) ps i).1 (orS (zs, fs, o) ps i).2.1 (orS (zs, fs, o) ps i).2.2 ((ps.getD i []).getD (Int.toNat 0) 0) ((ps.getD i []).getD (Int.toNat 1) 0)).1 (pairM (orS (zs, fs, o) ps i).1 (orS (zs, fs, o) ps i).2.1 (orS (zs, fs, o) ps i).2.2 ((ps.getD i []).getD (Int.toNat 0) 0) ((ps.getD i []).getD (Int.toNat 1) 0)).2.1 (pairM (orS (zs, fs, o) ps i).1 (orS (zs, fs, o) ps i).2.1 (orS (zs, fs, o) ps i).2.2 ((ps.getD i []).getD (Int.toNat 0) 0) ((ps.getD i []).getD (Int.toNat 1) 0)).2.2).1 (ownM (pairM (orS (zs, fs, o) ps i).1 (orS (zs, fs, o) ps i).2.1 (orS (zs, fs, o) ps i).2.2 ((ps.getD i []).getD (Int.toNat 0) 0) ((ps.getD i []).getD (Int.toNat 1) 0)).1 (pairM (orS (zs, fs, o) ps i).1 (orS (zs, fs, o) ps i).2.1 (orS (zs, fs, o) ps i).2.2 ((ps.getD i []).getD (Int.toNat 0) 0) ((ps.getD i []).getD (Int.toNat 1) 0)).2.1 (pairM (orS (zs, fs, o) ps i).1 (orS (zs, fs, o) ps i).2.1 (orS (zs, fs, o) ps i).2.2 ((ps.getD i []).getD (Int.toNat 0) 0) ((ps.getD i []).getD (Int.toNat 1) 0)).2.2).1.length) = orC (zs, fs, o) ps (i + 1) := by rw [show orC (zs, fs, o) ps (i + 1) = IntKind.i64.wrap (orC (zs, fs, o) ps i + cst (orS (zs, fs, o) ps i) ((ps.getD i []).getD 0 0) ((ps.getD i []).getD 1 0)) from rfl, e0]; rfl
        conv => whnf
        repeat' (first
          | (refine l5Narrow_call (okP_pr hT (by omega)) ?_; conv => whnf)
          | (refine l5Pair_call (okP_pr hT (by omega)) ?_; conv => whnf)
          | (refine l5Own_call (l5P_pr (S := (orS (zs, fs, o) ps i)) hT) ?_; conv => whnf)
          | (refine l5Merge_callW (okP_pr hT (by omega)) hW ?_; conv => whnf)
          | (refine plan_in (id := 5) [0, 1, 2, 3, 4, 5, 6, 7, 8, 9, 10, 11, 12, 13, 14, 15, 16, 17, 18, 19, 20, 21, 22, 23, 24, 25, 26, 27, 28, 29, 30, 31, 32, 33, 34, 35, 36, 37, 38, 39, 40, 41, 42, 43, 44, 45, 46, 47, 48, 49, 50, 51, 52, 53] (by kernel_rfl) (by kernel_rfl) ?_; conv => whnf)
          | (refine plan_in (id := 7) [0, 1, 2, 3, 4, 5, 6, 7, 8, 9, 10, 11, 12, 13, 14, 15, 16, 17, 18, 19] (by kernel_rfl) (by kernel_rfl) ?_; conv => whnf)
          | (refine plan_in (id := 8) [0, 1, 2, 3, 4, 5, 6, 7, 8, 9, 10, 11, 12, 13, 14] (by kernel_rfl) (by kernel_rfl) ?_; conv => whnf)
          | (refine plan_in (id := 9) [0, 1, 2, 3, 4, 5, 6] (by kernel_rfl) (by kernel_rfl) ?_; conv => whnf)
          | (refine aIf_t ?_; conv => whnf)
          | (refine aIf_f ?_; conv => whnf)
          | (refine fun (_ : _ ≤ maxLen) => ?_; conv => whnf)
          | (refine get_int (by omega) ?_; conv => whnf)
          | (refine aGet_in rfl ?_; conv => whnf)
          | (refine And.intro (by omega) ?_; conv => whnf)
          | (refine load_same ?_; conv => whnf)
          | (refine And.intro (Nat.le_of_ble_eq_true rfl) ?_; conv => whnf)
          | (refine append_same ?_; conv => whnf)
          | (refine get_ii_n (by omega) ?_; conv => whnf)
          | (refine cut_ii rfl ?_; conv => whnf)
          | (refine takeN_in ?_; conv => whnf)
          | (refine cut_ints ?_; conv => whnf)
          | (refine in_call ?_; conv => whnf)
          | (refine l1Count_call ?_; conv => whnf)
          | (refine set_force ?_; conv => whnf)
          | (refine And.intro (by kernel_rfl) ?_; conv => whnf)
          | refine aIf_eqf ?_
          | refine aIf_not ?_
          | (refine aIf_dec (fun _ => ?_) (fun _ => ?_) <;> conv => whnf))
        all_goals (first | (exfalso; omega) | contradiction | skip)
        all_goals first
          | (have hf : ¬ okPr (orS (zs, fs, o) ps i) (ps.getD i []) := by
               rw [e0]; intro h
               have q1 : (ps.getD i []).length = 2 := h.1
               have q2 : 0 ≤ ((ps.getD i []).getD (Int.toNat 0) 0) := h.2.1.1
               have q3 : ((ps.getD i []).getD (Int.toNat 0) 0) < ((ps.getD i []).getD (Int.toNat 1) 0) := h.2.1.2.1
               have q4 : ((ps.getD i []).getD (Int.toNat 1) 0) < (orS (zs, fs, o) ps i).2.1.length := h.2.1.2.2
               have q5 : (lfL (orS (zs, fs, o) ps i).1 (orS (zs, fs, o) ps i).2.1 (orS (zs, fs, o) ps i).2.2 ((ps.getD i []).getD (Int.toNat 0) 0) ((ps.getD i []).getD (Int.toNat 1) 0)).length ≤ 3 := h.2.2
               omega
             exact retIB (l5_f (S := (zs, fs, o)) (ps := ps) (i := i) hlt hf))
          | skip
        have hP2 : okPr (orS (zs, fs, o) ps i) (ps.getD i []) := by rw [e0]; exact ⟨by omega, ⟨by show 0 ≤ ((ps.getD i []).getD (Int.toNat 0) 0); omega, by show ((ps.getD i []).getD (Int.toNat 0) 0) < ((ps.getD i []).getD (Int.toNat 1) 0); omega, by show ((ps.getD i []).getD (Int.toNat 1) 0) < (orS (zs, fs, o) ps i).2.1.length; omega⟩, by show (lfL (orS (zs, fs, o) ps i).1 (orS (zs, fs, o) ps i).2.1 (orS (zs, fs, o) ps i).2.2 ((ps.getD i []).getD (Int.toNat 0) 0) ((ps.getD i []).getD (Int.toNat 1) 0)).length ≤ 3; omega⟩
        refine next_to (i + 1, false) (show ps.length - (i + 1) < ps.length - i by omega) ⟨(by omega : i + 1 ≤ ps.length), orP_s hP hP2, fun h => Bool.noConfusion h⟩ ?_
        refine to_force [true] ?_
        conv => whnf
        refine to_swap 1 10 [true] _ _ rfl rfl (by decide) (Nat.zero_le _) (Nat.zero_le _) ?_
        refine to_force [true] ?_
        conv => whnf
        refine to_swap 2 11 [true] _ _ rfl rfl (by decide) (Nat.zero_le _) (Nat.zero_le _) ?_
        refine to_force [true] ?_
        conv => whnf
        refine to_swap 3 12 [true] _ _ rfl rfl (by decide) (Nat.zero_le _) (Nat.zero_le _) ?_
        refine to_force [true] ?_
        conv => whnf
        refine St.le.to ?_
        conv => whnf
        repeat' (first
          | exact trivial
          | exact rfl
          | exact le_ints rfl
          | exact pureL_ii _ _
          | exact Or.inl (And.intro (pureL_oi _ _) rfl)
          | refine Or.inr ?_
          | refine And.intro ?_ ?_
          | exact Nat.le_of_ble_eq_true rfl
          | exact int_eq (by rw [IntWalk.i64_in _ (by omega)] <;> omega))
      · have he : i = ps.length := by omega
        have eb := beq_one (orS (zs, fs, o) ps i).2.1.length
        conv => whnf
        repeat' (first
          | (refine plan_in (id := 5) [0, 1, 2, 3, 4, 5, 6, 7, 8, 9, 10, 11, 12, 13, 14, 15, 16, 17, 18, 19, 20, 21, 22, 23, 24, 25, 26, 27, 28, 29, 30, 31, 32, 33, 34, 35, 36, 37, 38, 39, 40, 41, 42, 43, 44, 45, 46, 47, 48, 49, 50, 51, 52, 53] (by kernel_rfl) (by kernel_rfl) ?_; conv => whnf)
          | (refine plan_in (id := 7) [0, 1, 2, 3, 4, 5, 6, 7, 8, 9, 10, 11, 12, 13, 14, 15, 16, 17, 18, 19] (by kernel_rfl) (by kernel_rfl) ?_; conv => whnf)
          | (refine plan_in (id := 8) [0, 1, 2, 3, 4, 5, 6, 7, 8, 9, 10, 11, 12, 13, 14] (by kernel_rfl) (by kernel_rfl) ?_; conv => whnf)
          | (refine plan_in (id := 9) [0, 1, 2, 3, 4, 5, 6] (by kernel_rfl) (by kernel_rfl) ?_; conv => whnf)
          | (refine aIf_t ?_; conv => whnf)
          | (refine aIf_f ?_; conv => whnf)
          | (refine fun (_ : _ ≤ maxLen) => ?_; conv => whnf)
          | (refine get_nat (by omega) ?_; conv => whnf)
          | (refine aGet_in rfl ?_; conv => whnf)
          | (refine And.intro (by omega) ?_; conv => whnf)
          | (refine load_same ?_; conv => whnf)
          | (refine append_same ?_; conv => whnf)
          | (refine get_ii_n (by omega) ?_; conv => whnf)
          | (refine cut_ii rfl ?_; conv => whnf)
          | (refine takeN_in ?_; conv => whnf)
          | (refine cut_ints ?_; conv => whnf)
          | (refine in_call ?_; conv => whnf)
          | refine aIf_eqf ?_
          | refine aIf_not ?_
          | (refine aIf_dec (fun _ => ?_) (fun _ => ?_) <;> conv => whnf))
        all_goals (first | (exfalso; omega) | contradiction | skip)
        exact retIB ((l5_t (he ▸ hP)).trans (by rw [← he, e0]; exact congrArg (Prod.mk _) eb))
end Go.Proofs.Ytmgggbgejdkamaa
