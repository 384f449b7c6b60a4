import Derived.Test.YtjmdhfjemaoebaaGreatM0x40
import Derived.Test.YtjmdhfjemaoebaaGreatM0x43
import Derived.Test.YtjmdhfjemaoebaaGreatM0x44
namespace Go.Proofs.YtjmdhfjemaoebaaGreat
set_option maxRecDepth 20000
open Go.RowKit Go.Am
set_option linter.unusedSimpArgs false
attribute [local irreducible] aPlan aGet aIf aLoop aCall RetB NextB CallB CallG aCut aSet aAppend
theorem nodeChanged_callB {c d p : Nat} {ch : Int} {xss ss : List (List Int)} {ns : List Nd} {b : Bool} {env : List AV} {rows : List Row} {ctr low : Nat} {k : AV → St → Prop} (hX : ExI xss ns ss) (hp : p < ns.length) (hb : (cX ns ss ch p).isSome = b) (h : k (.tup [.agg [.int .i64 ((cX ns ss ch p).getD default).op, .int .i64 ((cX ns ss ch p).getD default).a, .int .i64 ((cX ns ss ch p).getD default).b, .ref rows.length ctr 0 ((cX ns ss ch p).getD default).l.length], .bool b]) ⟨env, rows ++ [⟨ctr, 3, 1, ((cX ns ss ch p).getD default).l.map (.int .i64)⟩], ctr + 1, low⟩) :
    CallB Tryz.prog 89 ⟨env, rows, ctr, low⟩ [.sl c ns.length (ns.flatMap (ndC c)), .sl d ss.length (ss.map (slI d)), .int .i64 ch, .int .i64 p] k := by
  subst hb; exact nodeChanged_call hX hp h
theorem dropOk_callB {c q : Nat} {us : List Int} {b : Bool} {env : List AV} {rows : List Row} {ctr low : Nat} {k : AV → St → Prop} (hpre : q < us.length ∧ us.length ≤ 1048576) (hb : decide (us.getD q 0 = 0 ∧ q + 1 < us.length) = b) (h : k (.bool b) ⟨env, rows, ctr + 1, low⟩) :
    CallB Tryz.prog 88 ⟨env, rows, ctr, low⟩ [.sl c us.length (us.map (.int .i64)), .int .i64 q] k := by
  subst hb; exact dropOk_call hpre h
set_option maxHeartbeats 8000000 in
theorem iChangesOf_sound : Sound Tryz.prog 43 sChangesOf := by
  refine sound_of Tryz.func43 rfl (enters_of Tryz.func43 (by kernel_rfl) (by kernel_rfl)) ?_
  rintro ⟨c, xss, ns⟩ hpre
  have hE : eP ns := hpre
  have hmax : maxLen = 9223372036854775807 := rfl
  cases hM : (shM xss ns).2 with
  | false =>
    have hL : chL xss ns = [] := if_neg (by rw [hM]; decide)
    conv => whnf
    repeat' (first
      | ((first | refine aGet_in rfl ?_ | refine load_same ?_ | refine And.intro rfl (And.intro (List.cons_ne_nil _ _) ?_) | refine And.intro (Nat.le_of_ble_eq_true rfl) ?_ | refine callG_t ?_ | refine append_same ?_ | refine And.intro (pureL_ii _ _) ?_ | refine And.intro (pureL_nd _ _) ?_ | refine iShapesOf_call (by assumption) ?_ | refine takeN_in ?_ | refine And.intro (by kernel_rfl) ?_ | refine aIf_ff (by assumption) ?_); conv => whnf) | refine aIf_not ?_)
    all_goals (first | (exfalso; omega) | contradiction | skip)
    exact retChL hL rfl rfl rfl
  | true =>
    have hX := exI_of hM
    have h12 := hX.n12
    have hul : (usL xss ns).length = ns.length := by unfold usL; rw [if_pos hM, usTo_length]
    have hL : chL xss ns = allC xss ns 9 := if_pos hM
    conv => whnf
    repeat' (first
      | ((first | refine fun (_ : _ ≤ maxLen) => ?_ | refine aGet_in rfl ?_ | refine load_same ?_ | refine And.intro rfl (And.intro (List.cons_ne_nil _ _) ?_) | refine And.intro (Nat.le_of_ble_eq_true rfl) ?_ | refine callG_t ?_ | refine append_same ?_ | refine And.intro (pureL_ii _ _) ?_ | refine And.intro (pureL_nd _ _) ?_); conv => whnf) | (refine iUsesOf_call (by first | omega | assumption | (refine ⟨?_, ?_⟩ <;> first | assumption | omega) | (refine ⟨?_, ?_, ?_⟩ <;> first | assumption | omega)) ?_; conv => whnf) | ((first | refine iShapesOf_call (by assumption) ?_ | refine takeN_in ?_ | refine And.intro (And.intro (by kernel_rfl) (And.intro rfl (Nat.le_of_ble_eq_true rfl))) ?_ | refine And.intro (by kernel_rfl) ?_ | refine aIf_tt (by assumption) ?_); conv => whnf) | refine aIf_not ?_)
    all_goals (first | (exfalso; omega) | contradiction | skip)
    refine loop_ut (ι := Nat) [false, true, false, true, false, true, true, false, false, false, false, false, false, false, false, false, false, false, false, false, false, false, false, false, true, true, false, false, false, false, false, false, false, false, false, false, false, false, false, false, false, false, false, false, false, false, false, false, false, false, false, false, false, false, false, false, false, false, false, false, false, false, false, false, false] (fun k => [(5, .ref 3 4 0 (rowC xss ns 0 k).length), (25, .int .i64 k)]) (fun k => [(3, (rowC xss ns 0 k).map (ownI 3))]) (fun k => k ≤ ns.length) (fun k => ns.length - k) (0) (Nat.zero_le _) ?_ ?_
    · conv => whnf
      refine St.le.to ?_
      conv => whnf
      repeat' (first
        | exact trivial | exact rfl
        | exact Or.inl (And.intro rfl rfl) | exact le_ints rfl
        | exact pureL_ii _ _ | exact pureL_nd _ _
        | exact Or.inl (And.intro (pureL_oi _ _) rfl) | refine Or.inr ?_
        | refine And.intro ?_ ?_ | exact Nat.le_of_ble_eq_true rfl)
    · rintro k hk
      have hk : k ≤ ns.length := hk
      have hrl := rowC_le xss ns 0 k
      by_cases hlt : k < ns.length
      · have hpd : k < (usL xss ns).length ∧ (usL xss ns).length ≤ 1048576 := by omega
        cases hb : chB xss ns 0 k with
        | true =>
          have hn := rowC_t hb
          have hnl : (rowC xss ns 0 (k + 1)).length = (rowC xss ns 0 k).length + 1 := by rw [hn, List.length_append, List.length_singleton]
          have hbd : decide ((usL xss ns).getD k 0 = 0 ∧ k + 1 < (usL xss ns).length) = true := hb
          conv => whnf
          repeat' (first
            | ((first | refine dropOk_callB hpd hbd ?_ | refine aIf_t ?_ | refine callG_t ?_ | refine append_same ?_ | refine cut_ints ?_ | refine And.intro (And.intro (by kernel_rfl) (And.intro rfl (Nat.le_of_ble_eq_true rfl))) ?_); conv => whnf) | (refine aIf_dec (fun _ => ?_) (fun _ => ?_) <;> conv => whnf))
          all_goals (first | (exfalso; omega) | contradiction | skip)
          refine append_ll rfl (by rw [List.length_map]) rfl rfl (by omega) (Nat.zero_le _) ?_
          conv => whnf
          repeat' (first
            | (refine append_same ?_; conv => whnf))
          refine next_ut (k + 1) (show ns.length - (k + 1) < ns.length - k by omega) (by exact (by omega : k + 1 ≤ ns.length)) ?_
          rw [hnl, hn]
          conv => whnf
          refine to_close 3 (rowC xss ns 0 k).length 5 _ _ 1 3 _ _ rfl ((List.getElem?_append_right (by rw [List.length_map]; omega)).trans (by rw [List.length_map, Nat.sub_self]; rfl)) rfl (by decide) (Nat.zero_le _) (by decide) rfl ?_
          refine St.le.to ?_
          conv => whnf
          repeat' (first | exact le_snoc2 | refine And.intro ?_ ?_)
          repeat' (first
            | exact trivial | exact rfl
            | exact Or.inl (And.intro rfl rfl) | exact le_ints rfl
            | exact pureL_ii _ _ | exact pureL_nd _ _
            | exact Or.inl (And.intro (pureL_oi _ _) rfl) | refine Or.inr ?_
            | refine And.intro ?_ ?_ | exact Nat.le_of_ble_eq_true rfl
            | exact int_eq (by rw [IntWalk.i64_in _ (by omega)] <;> omega))
        | false =>
          have hn := rowC_f hb
          have hbd : decide ((usL xss ns).getD k 0 = 0 ∧ k + 1 < (usL xss ns).length) = false := hb
          conv => whnf
          repeat' (first
            | ((first | refine dropOk_callB hpd hbd ?_ | refine aIf_f ?_ | refine callG_t ?_ | refine append_same ?_ | refine cut_ints ?_); conv => whnf) | (refine aIf_dec (fun _ => ?_) (fun _ => ?_) <;> conv => whnf))
          all_goals (first | (exfalso; omega) | contradiction | skip)
          refine next_ut (k + 1) (show ns.length - (k + 1) < ns.length - k by omega) (by exact (by omega : k + 1 ≤ ns.length)) ?_
          rw [hn]
          conv => whnf
          refine St.le.to ?_
          conv => whnf
          repeat' (first
            | exact trivial | exact rfl
            | exact Or.inl (And.intro rfl rfl) | exact le_ints rfl
            | exact pureL_ii _ _ | exact pureL_nd _ _
            | exact Or.inl (And.intro (pureL_oi _ _) rfl) | refine Or.inr ?_
            | refine And.intro ?_ ?_ | exact Nat.le_of_ble_eq_true rfl
            | exact int_eq (by rw [IntWalk.i64_in _ (by omega)] <;> omega))
      · have hke : k = ns.length := by omega
        subst hke
        conv => whnf
        repeat' (first
          | ((first | refine And.intro (by omega) ?_ | refine callG_t ?_ | refine append_same ?_); conv => whnf) | (refine dropOk_call (by first | omega | assumption | (refine ⟨?_, ?_⟩ <;> first | assumption | omega) | (refine ⟨?_, ?_, ?_⟩ <;> first | assumption | omega)) ?_; conv => whnf) | (refine cut_ints ?_; conv => whnf) | (refine aIf_dec (fun _ => ?_) (fun _ => ?_) <;> conv => whnf))
        all_goals (first | (exfalso; omega) | contradiction | skip)
        refine loop_ut (ι := Nat) [false, true, false, true, false, true, false, false, true, false, false, false, false, false, false, false, false, false, false, false, false, false, false, false, false, false, false, false, false, false, false, false, false, false, false, false, false, false, false, false, false, false, false, false, false, false, false, false, false, false, false, false, false, false, false, false, false, false, false, false, false, false, false, false, false] (fun j => [(5, .ref 3 4 0 (allC xss ns (j + 1)).length), (8, .int .i64 ((j + 1 : Nat) : Int))]) (fun j => [(3, (allC xss ns (j + 1)).map (ownI 3))]) (fun j => j ≤ 8) (fun j => 8 - j) (0) (Nat.zero_le _) ?_ ?_
        · conv => whnf
          refine St.le.to ?_
          conv => whnf
          repeat' (first
            | exact trivial | exact rfl
            | exact Or.inl (And.intro rfl rfl) | exact le_ints rfl
            | exact pureL_ii _ _ | exact pureL_nd _ _
            | exact Or.inl (And.intro (pureL_oi _ _) rfl) | refine Or.inr ?_
            | refine And.intro ?_ ?_ | exact Nat.le_of_ble_eq_true rfl)
        · rintro j hj
          have hj : j ≤ 8 := hj
          have hal := allC_le xss ns (j + 1)
          by_cases hlj : j < 8
          · conv => whnf
            repeat' (first
              | ((first | refine fun (_ : _ ≤ maxLen) => ?_ | refine aGet_in rfl ?_ | refine append_same ?_); conv => whnf) | (refine aIf_dec (fun _ => ?_) (fun _ => ?_) <;> conv => whnf))
            all_goals (first | (exfalso; omega) | contradiction | skip)
            refine loop_ut (ι := Nat) [false, true, false, true, false, true, false, false, true, false, false, false, false, false, false, false, false, false, false, false, false, false, false, false, false, false, false, false, false, false, false, false, false, false, false, false, false, false, false, false, false, false, false, true, true, false, false, false, false, false, false, false, false, false, false, false, false, false, false, false, false, false, false, false, false] (fun k => [(5, .ref 3 4 0 ((allC xss ns (j + 1)).length + (rowC xss ns (j + 1) k).length)), (44, .int .i64 k)]) (fun k => [(3, (allC xss ns (j + 1) ++ rowC xss ns (j + 1) k).map (ownI 3))]) (fun k => k ≤ ns.length) (fun k => ns.length - k) (0) (Nat.zero_le _) ?_ ?_
            · conv => whnf
              refine St.le.to ?_
              conv => whnf
              repeat' (first | exact le_cells (congrArg (List.map (ownI 3)) (List.append_nil (allC xss ns (j + 1))).symm) (pureL_oi _ _) | refine And.intro ?_ ?_)
              repeat' (first
                | exact trivial | exact rfl
                | exact Or.inl (And.intro rfl rfl) | exact le_ints rfl
                | exact pureL_ii _ _ | exact pureL_nd _ _
                | exact Or.inl (And.intro (pureL_oi _ _) rfl) | refine Or.inr ?_
                | refine And.intro ?_ ?_ | exact Nat.le_of_ble_eq_true rfl)
            · rintro k hk
              have hk : k ≤ ns.length := hk
              have hrk := rowC_le xss ns (j + 1) k
              have hm9 : (j + 1) * ns.length ≤ 8 * 12 := Nat.mul_le_mul (by omega) h12
              have hla : (allC xss ns (j + 1) ++ rowC xss ns (j + 1) k).length = (allC xss ns (j + 1)).length + (rowC xss ns (j + 1) k).length := List.length_append
              by_cases hlt : k < ns.length
              · cases hb : chB xss ns (j + 1) k with
                | true =>
                  have hn := rowC_t hb
                  have hnl : (rowC xss ns (j + 1) (k + 1)).length = (rowC xss ns (j + 1) k).length + 1 := by rw [hn, List.length_append, List.length_singleton]
                  have hbd : (cX ns (shM xss ns).1 ((j + 1 : Nat) : Int) k).isSome = true := (chB_s (by omega)).symm.trans hb
                  conv => whnf
                  repeat' (first
                    | ((first | refine nodeChanged_callB hX hlt hbd ?_ | refine aIf_t ?_ | refine aGet_in rfl ?_ | refine And.intro (Nat.le_of_ble_eq_true rfl) ?_ | refine callG_t ?_ | refine append_same ?_ | refine And.intro (pureL_nd _ _) ?_ | refine cut_ii rfl ?_ | refine set_force ?_ | refine And.intro (And.intro (by kernel_rfl) (And.intro rfl (Nat.le_of_ble_eq_true rfl))) ?_ | refine And.intro (by kernel_rfl) ?_); conv => whnf) | (refine aIf_dec (fun _ => ?_) (fun _ => ?_) <;> conv => whnf))
                  all_goals (first | (exfalso; omega) | contradiction | skip)
                  refine append_ll rfl (by rw [List.length_map, hla]) rfl rfl (by omega) (Nat.zero_le _) ?_
                  conv => whnf
                  repeat' (first
                    | (refine append_same ?_; conv => whnf))
                  refine next_ut (k + 1) (show ns.length - (k + 1) < ns.length - k by omega) (by exact (by omega : k + 1 ≤ ns.length)) ?_
                  rw [hnl, hn, ← List.append_assoc, ← Nat.add_assoc, ← hla]
                  conv => whnf
                  refine to_close 3 (allC xss ns (j + 1) ++ rowC xss ns (j + 1) k).length 8 _ _ 1 3 _ _ rfl ((List.getElem?_append_right (by rw [List.length_map]; omega)).trans (by rw [List.length_map, Nat.sub_self]; rfl)) rfl (by decide) (Nat.zero_le _) (by decide) rfl ?_
                  refine St.le.to ?_
                  conv => whnf
                  repeat' (first | exact le_snoc2 | refine And.intro ?_ ?_)
                  repeat' (first
                    | exact trivial | exact rfl
                    | exact Or.inl (And.intro rfl rfl) | exact le_ints rfl
                    | exact pureL_ii _ _ | exact pureL_nd _ _
                    | exact Or.inl (And.intro (pureL_oi _ _) rfl) | refine Or.inr ?_
                    | refine And.intro ?_ ?_ | exact Nat.le_of_ble_eq_true rfl
                    | exact int_eq (by rw [IntWalk.i64_in _ (by omega)] <;> omega))
                | false =>
                  have hn := rowC_f hb
                  have hbd : (cX ns (shM xss ns).1 ((j + 1 : Nat) : Int) k).isSome = false := (chB_s (by omega)).symm.trans hb
                  conv => whnf
                  repeat' (first
                    | ((first | refine nodeChanged_callB hX hlt hbd ?_ | refine aIf_f ?_ | refine aGet_in rfl ?_ | refine And.intro (Nat.le_of_ble_eq_true rfl) ?_ | refine callG_t ?_ | refine append_same ?_ | refine And.intro (pureL_nd _ _) ?_ | refine cut_ii rfl ?_ | refine set_force ?_ | refine And.intro (by kernel_rfl) ?_); conv => whnf) | (refine aIf_dec (fun _ => ?_) (fun _ => ?_) <;> conv => whnf))
                  all_goals (first | (exfalso; omega) | contradiction | skip)
                  refine next_ut (k + 1) (show ns.length - (k + 1) < ns.length - k by omega) (by exact (by omega : k + 1 ≤ ns.length)) ?_
                  rw [hn]
                  conv => whnf
                  refine St.le.to ?_
                  conv => whnf
                  repeat' (first
                    | exact trivial | exact rfl
                    | exact Or.inl (And.intro rfl rfl) | exact le_ints rfl
                    | exact pureL_ii _ _ | exact pureL_nd _ _
                    | exact Or.inl (And.intro (pureL_oi _ _) rfl) | refine Or.inr ?_
                    | refine And.intro ?_ ?_ | exact Nat.le_of_ble_eq_true rfl
                    | exact int_eq (by rw [IntWalk.i64_in _ (by omega)] <;> omega))
              · have hke : k = ns.length := by omega
                subst hke
                have ha : allC xss ns (j + 1 + 1) = allC xss ns (j + 1) ++ rowC xss ns (j + 1) ns.length := rfl
                conv => whnf
                repeat' (first
                  | ((first | refine aGet_in rfl ?_ | refine And.intro (by omega) ?_ | refine callG_t ?_ | refine append_same ?_ | refine cut_ii rfl ?_ | refine nodeChanged_call (by assumption) (by omega) ?_ | refine set_force ?_); conv => whnf) | (refine aIf_dec (fun _ => ?_) (fun _ => ?_) <;> conv => whnf) | (refine aIf_in (fun _ => ?_) (fun _ => ?_) <;> conv => whnf))
                all_goals (first | (exfalso; omega) | contradiction | skip)
                refine next_ut (j + 1) (show 8 - (j + 1) < 8 - j by omega) (by exact (by omega : j + 1 ≤ 8)) ?_
                rw [ha, hla]
                conv => whnf
                refine St.le.to ?_
                conv => whnf
                repeat' (first
                  | exact trivial | exact rfl
                  | exact Or.inl (And.intro rfl rfl) | exact le_ints rfl
                  | exact pureL_ii _ _ | exact pureL_nd _ _
                  | exact Or.inl (And.intro (pureL_oi _ _) rfl) | refine Or.inr ?_
                  | refine And.intro ?_ ?_ | exact Nat.le_of_ble_eq_true rfl
                  | exact int_eq (by rw [IntWalk.i64_in _ (by omega)] <;> omega))
          · have hje : j = 8 := by omega
            subst hje
            conv => whnf
            repeat' (first
              | ((first | refine aIf_f ?_ | refine append_same ?_); conv => whnf))
            all_goals (first | (exfalso; omega) | contradiction | skip)
            exact retChL hL rfl rfl rfl
theorem iChangesOf_call {c : Nat} {xss : List (List Int)} {ns : List Nd} {env : List AV} {rows : List Row} {ctr low : Nat} {k : AV → St → Prop} (hE : eP ns) (h : k (.ref rows.length ctr 0 (chL xss ns).length) ⟨env, rows ++ [⟨ctr, 38, 1, (chL xss ns).map (ownI 3)⟩], ctr + 1, low⟩) :
    CallB Tryz.prog 43 ⟨env, rows, ctr, low⟩ [.agg [.sl c xss.length (xss.map (slI c)), .sl c ns.length (ns.flatMap (ndC c))]] k := callR_in iChangesOf_sound (c, xss, ns) hE (protL_oi _ _) h
end Go.Proofs.YtjmdhfjemaoebaaGreat
namespace Go.Proofs.YtjmdhfjemaoebaaGreat
set_option maxRecDepth 20000
open Go.RowKit Go.Am
set_option linter.unusedSimpArgs false
attribute [local irreducible] aPlan aGet aIf aLoop aCall RetB NextB CallB CallG aCut aSet aAppend
theorem l6Ok_callB {c q : Nat} {ch : Int} {xss : List (List Int)} {ns : List Nd} {b : Bool} {env : List AV} {rows : List Row} {ctr low : Nat} {k : AV → St → Prop} (hE : eP ns) (hM : (shM xss ns).2 = true) (hq : q < ns.length) (hc : 0 ≤ ch ∧ ch ≤ 8) (hb : okC xss ns ch q = b) (h : k (.bool b) ⟨env, rows, ctr + 1, low⟩) :
    CallB Tryz.prog 78 ⟨env, rows, ctr, low⟩ [.agg [.sl c xss.length (xss.map (slI c)), .sl c ns.length (ns.flatMap (ndC c))], .int .i64 ch, .int .i64 q] k := by
  subst hb; exact l6Ok_call hE hM hq hc h
theorem l6Below_callB {c g : Nat} {xss : List (List Int)} {ns : List Nd} {b : Bool} {env : List AV} {rows : List Row} {ctr low : Nat} {k : AV → St → Prop} (hM : (shM xss ns).2 = true) (hg : g < ns.length) (hb : blB ns g = b) (h : k (.bool b) ⟨env, rows, ctr + 1, low⟩) :
    CallB Tryz.prog 79 ⟨env, rows, ctr, low⟩ [.agg [.sl c xss.length (xss.map (slI c)), .sl c ns.length (ns.flatMap (ndC c))], .int .i64 g] k := by
  subst hb; exact l6Below_call hM hg h
set_option maxHeartbeats 8000000 in
theorem sChangesOf_sound : Sound Tryz.prog 37 sChangesOf := by
  refine sound_of Tryz.func37 rfl (enters_of Tryz.func37 (by kernel_rfl) (by kernel_rfl)) ?_
  rintro ⟨c, xss, ns⟩ hpre
  have hE : eP ns := hpre
  have hmax : maxLen = 9223372036854775807 := rfl
  cases hM : (shM xss ns).2 with
  | false =>
    have hL : chL xss ns = [] := if_neg (by rw [hM]; decide)
    conv => whnf
    repeat' (first
      | ((first | refine And.intro rfl (And.intro (List.cons_ne_nil _ _) ?_) | refine append_same ?_ | refine And.intro (And.intro (by kernel_rfl) (And.intro rfl (Nat.le_of_ble_eq_true rfl))) ?_); conv => whnf))
    refine loop_ut (ι := Unit) [false, true, false, true, true, false, false, false, false, false, false, false, false, false, false, false, false, false, false, false, false, false, false, false, false, false, false, false, false, false, false, false, false, false, false, false, false, false, false, false, false, false, false] (fun _ => [(3, .ref 2 3 0 0), (4, .int .i64 0)]) (fun _ => [(2, [])]) (fun _ => True) (fun _ => 0) (()) trivial ?_ ?_
    · conv => whnf
      refine St.le.to ?_
      conv => whnf
      repeat' (first
        | exact trivial | exact rfl
        | exact Or.inl (And.intro rfl rfl) | exact pureL_ii _ _
        | exact pureL_nd _ _ | refine Or.inr ?_
        | refine And.intro ?_ ?_ | exact Nat.le_of_ble_eq_true rfl)
    · rintro u -
      conv => whnf
      repeat' (first
        | ((first | refine aIf_t ?_ | refine load_same ?_ | refine And.intro (Nat.le_of_ble_eq_true rfl) ?_ | refine callG_t ?_ | refine append_same ?_ | refine And.intro (pureL_ii _ _) ?_ | refine And.intro (pureL_nd _ _) ?_); conv => whnf) | (refine sExprOk_call (by first | omega | assumption | (refine ⟨?_, ?_⟩ <;> first | assumption | omega) | (refine ⟨?_, ?_, ?_⟩ <;> first | assumption | omega)) ?_; conv => whnf) | ((first | refine takeN_in ?_ | refine And.intro (by kernel_rfl) ?_ | refine aIf_ff (by assumption) ?_); conv => whnf))
      all_goals (first | (exfalso; omega) | contradiction | skip)
      exact retChL hL rfl rfl rfl
  | true =>
    have hX := exI_of hM
    have h12 := hX.n12
    have hL : chL xss ns = allC xss ns 9 := if_pos hM
    conv => whnf
    repeat' (first
      | ((first | refine And.intro rfl (And.intro (List.cons_ne_nil _ _) ?_) | refine append_same ?_ | refine And.intro (And.intro (by kernel_rfl) (And.intro rfl (Nat.le_of_ble_eq_true rfl))) ?_); conv => whnf))
    refine loop_ut (ι := Nat) [false, true, false, true, true, false, false, false, false, false, false, false, false, false, false, false, false, false, false, false, false, false, false, false, false, false, false, false, false, false, false, false, false, false, false, false, false, false, false, false, false, false, false] (fun j => [(3, .ref 2 3 0 (allC xss ns j).length), (4, .int .i64 j)]) (fun j => [(2, (allC xss ns j).map (ownI 3))]) (fun j => j ≤ 9) (fun j => 9 - j) (0) (Nat.zero_le _) ?_ ?_
    · conv => whnf
      refine St.le.to ?_
      conv => whnf
      repeat' (first
        | exact trivial | exact rfl
        | exact Or.inl (And.intro rfl rfl) | exact pureL_ii _ _
        | exact pureL_nd _ _ | refine Or.inr ?_
        | refine And.intro ?_ ?_ | exact Nat.le_of_ble_eq_true rfl)
    · rintro j hj
      have hj : j ≤ 9 := hj
      have hal := allC_le xss ns j
      by_cases hlj : j < 9
      · conv => whnf
        repeat' (first
          | ((first | refine aIf_t ?_ | refine aIf_f ?_ | refine load_same ?_ | refine And.intro (Nat.le_of_ble_eq_true rfl) ?_ | refine callG_t ?_ | refine append_same ?_ | refine And.intro (pureL_ii _ _) ?_ | refine And.intro (pureL_nd _ _) ?_); conv => whnf) | (refine sExprOk_call (by first | omega | assumption | (refine ⟨?_, ?_⟩ <;> first | assumption | omega) | (refine ⟨?_, ?_, ?_⟩ <;> first | assumption | omega)) ?_; conv => whnf) | ((first | refine takeN_in ?_ | refine And.intro (by kernel_rfl) ?_ | refine aIf_tt (by assumption) ?_); conv => whnf) | refine aIf_eqt ?_
          | (refine aIf_dec (fun _ => ?_) (fun _ => ?_) <;> conv => whnf))
        all_goals (first | (exfalso; omega) | contradiction | skip)
        refine loop_ut (ι := Nat) [false, true, false, true, true, true, false, false, false, false, false, false, false, false, false, false, false, false, false, false, false, false, false, false, false, false, false, false, false, false, false, false, false, false, false, false, false, false, false, false, false, false, false] (fun k => [(3, .ref 2 3 0 ((allC xss ns j).length + (rowC xss ns j k).length)), (5, .int .i64 k)]) (fun k => [(2, (allC xss ns j ++ rowC xss ns j k).map (ownI 3))]) (fun k => k ≤ ns.length) (fun k => ns.length - k) (0) (Nat.zero_le _) ?_ ?_
        · conv => whnf
          refine St.le.to ?_
          conv => whnf
          repeat' (first | exact le_cells (congrArg (List.map (ownI 3)) (List.append_nil (allC xss ns j)).symm) (pureL_oi _ _) | refine And.intro ?_ ?_)
          repeat' (first
            | exact trivial | exact rfl
            | exact Or.inl (And.intro rfl rfl) | exact pureL_ii _ _
            | exact pureL_nd _ _ | refine Or.inr ?_
            | refine And.intro ?_ ?_ | exact Nat.le_of_ble_eq_true rfl)
        · rintro k hk
          have hk : k ≤ ns.length := hk
          have hrk := rowC_le xss ns j k
          have hm9 : j * ns.length ≤ 8 * 12 := Nat.mul_le_mul (by omega) h12
          have hla : (allC xss ns j ++ rowC xss ns j k).length = (allC xss ns j).length + (rowC xss ns j k).length := List.length_append
          by_cases hlt : k < ns.length
          · have hck := chB_ok (c := j) hM hlt
            have hc8 : 0 ≤ (j : Int) ∧ (j : Int) ≤ 8 := by omega
            cases hok : okC xss ns j k with
            | false =>
              rw [hok] at hck
              have hn := rowC_f (hck : chB xss ns j k = false)
              conv => whnf
              repeat' (first
                | ((first | refine l6Ok_callB hE hM hlt hc8 hok ?_ | refine aIf_f ?_ | refine fun (_ : _ ≤ maxLen) => ?_ | refine aGet_in rfl ?_ | refine load_same ?_ | refine And.intro (Nat.le_of_ble_eq_true rfl) ?_ | refine callG_t ?_ | refine append_same ?_ | refine And.intro (pureL_ii _ _) ?_ | refine And.intro (pureL_nd _ _) ?_ | refine takeN_in ?_ | refine And.intro (by kernel_rfl) ?_); conv => whnf) | (refine aIf_dec (fun _ => ?_) (fun _ => ?_) <;> conv => whnf))
              all_goals (first | (exfalso; omega) | contradiction | skip)
              refine next_ut (k + 1) (show ns.length - (k + 1) < ns.length - k by omega) (by exact (by omega : k + 1 ≤ ns.length)) ?_
              rw [hn]
              conv => whnf
              refine St.le.to ?_
              conv => whnf
              repeat' (first
                | exact trivial | exact rfl
                | exact Or.inl (And.intro rfl rfl) | exact pureL_ii _ _
                | exact pureL_nd _ _ | exact Or.inl (And.intro (pureL_oi _ _) rfl)
                | refine Or.inr ?_ | refine And.intro ?_ ?_
                | exact Nat.le_of_ble_eq_true rfl | exact int_eq (by rw [IntWalk.i64_in _ (by omega)] <;> omega))
            | true =>
              rw [hok, Bool.true_and] at hck
              by_cases hj0 : (j : Int) = 0
              · have hj0' : j = 0 := by omega
                cases hbl : blB ns k with
                | true =>
                  rw [hbl, decide_eq_false (by omega)] at hck
                  have hn := rowC_f (hck : chB xss ns j k = false)
                  conv => whnf
                  repeat' (first
                    | ((first | refine l6Ok_callB hE hM hlt hc8 hok ?_ | refine l6Below_callB hM hlt hbl ?_ | refine aIf_t ?_ | refine aIf_f ?_ | refine fun (_ : _ ≤ maxLen) => ?_ | refine aGet_in rfl ?_ | refine And.intro (by omega) ?_ | refine load_same ?_ | refine And.intro (Nat.le_of_ble_eq_true rfl) ?_ | refine callG_t ?_ | refine append_same ?_ | refine And.intro (pureL_ii _ _) ?_ | refine And.intro (pureL_nd _ _) ?_ | refine takeN_in ?_ | refine And.intro (by kernel_rfl) ?_); conv => whnf) | refine aIf_eqf ?_
                    | refine aIf_not ?_ | (refine aIf_dec (fun _ => ?_) (fun _ => ?_) <;> conv => whnf))
                  all_goals (first | (exfalso; omega) | contradiction | skip)
                  refine next_ut (k + 1) (show ns.length - (k + 1) < ns.length - k by omega) (by exact (by omega : k + 1 ≤ ns.length)) ?_
                  rw [hn]
                  conv => whnf
                  refine St.le.to ?_
                  conv => whnf
                  repeat' (first
                    | exact trivial | exact rfl
                    | exact Or.inl (And.intro rfl rfl) | exact pureL_ii _ _
                    | exact pureL_nd _ _ | exact Or.inl (And.intro (pureL_oi _ _) rfl)
                    | refine Or.inr ?_ | refine And.intro ?_ ?_
                    | exact Nat.le_of_ble_eq_true rfl | exact int_eq (by rw [IntWalk.i64_in _ (by omega)] <;> omega))
                | false =>
                  rw [hbl, decide_eq_false (by omega)] at hck
                  have hn := rowC_t (hck : chB xss ns j k = true)
                  have hnl : (rowC xss ns j (k + 1)).length = (rowC xss ns j k).length + 1 := by rw [hn, List.length_append, List.length_singleton]
                  conv => whnf
                  repeat' (first
                    | ((first | refine l6Ok_callB hE hM hlt hc8 hok ?_ | refine l6Below_callB hM hlt hbl ?_ | refine aIf_t ?_ | refine aIf_f ?_ | refine fun (_ : _ ≤ maxLen) => ?_ | refine aGet_in rfl ?_ | refine And.intro (by omega) ?_ | refine load_same ?_ | refine And.intro (Nat.le_of_ble_eq_true rfl) ?_ | refine callG_t ?_ | refine append_same ?_ | refine And.intro (pureL_ii _ _) ?_ | refine And.intro (pureL_nd _ _) ?_ | refine takeN_in ?_ | refine And.intro (And.intro (by kernel_rfl) (And.intro rfl (Nat.le_of_ble_eq_true rfl))) ?_ | refine And.intro (by kernel_rfl) ?_); conv => whnf) | refine aIf_eqf ?_
                    | refine aIf_not ?_ | (refine aIf_dec (fun _ => ?_) (fun _ => ?_) <;> conv => whnf))
                  all_goals (first | (exfalso; omega) | contradiction | skip)
                  refine append_ll rfl (by rw [List.length_map, hla]) rfl rfl (by omega) (Nat.zero_le _) ?_
                  conv => whnf
                  repeat' (first
                    | (refine append_same ?_; conv => whnf))
                  refine next_ut (k + 1) (show ns.length - (k + 1) < ns.length - k by omega) (by exact (by omega : k + 1 ≤ ns.length)) ?_
                  rw [hnl, hn, ← List.append_assoc, ← Nat.add_assoc, ← hla]
                  conv => whnf
                  refine to_close 2 (allC xss ns j ++ rowC xss ns j k).length 3 _ _ 1 3 _ _ rfl ((List.getElem?_append_right (by rw [List.length_map]; omega)).trans (by rw [List.length_map, Nat.sub_self]; rfl)) rfl (by decide) (Nat.zero_le _) (by decide) rfl ?_
                  refine St.le.to ?_
                  conv => whnf
                  repeat' (first | exact le_snoc2 | refine And.intro ?_ ?_)
                  repeat' (first
                    | exact trivial | exact rfl
                    | exact Or.inl (And.intro rfl rfl) | exact pureL_ii _ _
                    | exact pureL_nd _ _ | refine Or.inr ?_
                    | refine And.intro ?_ ?_ | exact Nat.le_of_ble_eq_true rfl
                    | exact int_eq (by rw [IntWalk.i64_in _ (by omega)] <;> omega))
              · rw [decide_eq_true (by omega), Bool.true_or] at hck
                have hn := rowC_t (hck : chB xss ns j k = true)
                have hnl : (rowC xss ns j (k + 1)).length = (rowC xss ns j k).length + 1 := by rw [hn, List.length_append, List.length_singleton]
                conv => whnf
                repeat' (first
                  | ((first | refine l6Ok_callB hE hM hlt hc8 hok ?_ | refine aIf_t ?_ | refine aIf_f ?_ | refine fun (_ : _ ≤ maxLen) => ?_ | refine aGet_in rfl ?_ | refine And.intro (by omega) ?_ | refine load_same ?_ | refine And.intro (Nat.le_of_ble_eq_true rfl) ?_ | refine callG_t ?_ | refine append_same ?_ | refine And.intro (pureL_ii _ _) ?_ | refine And.intro (pureL_nd _ _) ?_ | refine l6Below_call (by assumption) (by omega) ?_ | refine takeN_in ?_ | refine And.intro (And.intro (by kernel_rfl) (And.intro rfl (Nat.le_of_ble_eq_true rfl))) ?_ | refine And.intro (by kernel_rfl) ?_); conv => whnf) | refine aIf_eqf ?_
                  | refine aIf_not ?_ | (refine aIf_dec (fun _ => ?_) (fun _ => ?_) <;> conv => whnf)
                  | (refine aIf_in (fun _ => ?_) (fun _ => ?_) <;> conv => whnf))
                all_goals (first | (exfalso; omega) | contradiction | skip)
                refine append_ll rfl (by rw [List.length_map, hla]) rfl rfl (by omega) (Nat.zero_le _) ?_
                conv => whnf
                repeat' (first
                  | (refine append_same ?_; conv => whnf))
                refine next_ut (k + 1) (show ns.length - (k + 1) < ns.length - k by omega) (by exact (by omega : k + 1 ≤ ns.length)) ?_
                rw [hnl, hn, ← List.append_assoc, ← Nat.add_assoc, ← hla]
                conv => whnf
                refine to_close 2 (allC xss ns j ++ rowC xss ns j k).length 3 _ _ 1 3 _ _ rfl ((List.getElem?_append_right (by rw [List.length_map]; omega)).trans (by rw [List.length_map, Nat.sub_self]; rfl)) rfl (by decide) (Nat.zero_le _) (by decide) rfl ?_
                refine St.le.to ?_
                conv => whnf
                repeat' (first | exact le_snoc2 | refine And.intro ?_ ?_)
                repeat' (first
                  | exact trivial | exact rfl
                  | exact Or.inl (And.intro rfl rfl) | exact pureL_ii _ _
                  | exact pureL_nd _ _ | refine Or.inr ?_
                  | refine And.intro ?_ ?_ | exact Nat.le_of_ble_eq_true rfl
                  | exact int_eq (by rw [IntWalk.i64_in _ (by omega)] <;> omega))
          · have hke : k = ns.length := by omega
            subst hke
            have ha : allC xss ns (j + 1) = allC xss ns j ++ rowC xss ns j ns.length := rfl
            conv => whnf
            repeat' (first
              | ((first | refine aIf_t ?_ | refine aIf_f ?_ | refine fun (_ : _ ≤ maxLen) => ?_ | refine aGet_in rfl ?_ | refine And.intro (by omega) ?_ | refine load_same ?_ | refine callG_t ?_ | refine append_same ?_ | refine l6Ok_call (by assumption) (by assumption) (by omega) (by omega) ?_ | refine l6Below_call (by assumption) (by omega) ?_ | refine takeN_in ?_); conv => whnf) | refine aIf_eqt ?_
              | refine aIf_eqf ?_ | refine aIf_not ?_
              | (refine aIf_dec (fun _ => ?_) (fun _ => ?_) <;> conv => whnf) | (refine aIf_in (fun _ => ?_) (fun _ => ?_) <;> conv => whnf))
            all_goals (first | (exfalso; omega) | contradiction | skip)
            refine next_ut (j + 1) (show 9 - (j + 1) < 9 - j by omega) (by exact (by omega : j + 1 ≤ 9)) ?_
            rw [ha, hla]
            conv => whnf
            refine St.le.to ?_
            conv => whnf
            repeat' (first
              | exact trivial | exact rfl
              | exact Or.inl (And.intro rfl rfl) | exact pureL_ii _ _
              | exact pureL_nd _ _ | exact Or.inl (And.intro (pureL_oi _ _) rfl)
              | refine Or.inr ?_ | refine And.intro ?_ ?_
              | exact Nat.le_of_ble_eq_true rfl | exact int_eq (by rw [IntWalk.i64_in _ (by omega)] <;> omega))
      · have hje : j = 9 := by omega
        subst hje
        conv => whnf
        repeat' (first
          | ((first | refine aIf_f ?_ | refine append_same ?_); conv => whnf))
        all_goals (first | (exfalso; omega) | contradiction | skip)
        exact retChL hL rfl rfl rfl
theorem sChangesOf_call {c : Nat} {xss : List (List Int)} {ns : List Nd} {env : List AV} {rows : List Row} {ctr low : Nat} {k : AV → St → Prop} (hE : eP ns) (h : k (.ref rows.length ctr 0 (chL xss ns).length) ⟨env, rows ++ [⟨ctr, 38, 1, (chL xss ns).map (ownI 3)⟩], ctr + 1, low⟩) :
    CallB Tryz.prog 37 ⟨env, rows, ctr, low⟩ [.agg [.sl c xss.length (xss.map (slI c)), .sl c ns.length (ns.flatMap (ndC c))]] k := callR_in sChangesOf_sound (c, xss, ns) hE (protL_oi _ _) h
end Go.Proofs.YtjmdhfjemaoebaaGreat
namespace Go.Am
open Go.RowKit
def forceCs (b : Bool) (r : Row) (k : Row → Prop) : Prop :=
  match r with
  | ⟨v, e, z, cs⟩ => forceN v fun v' => match b with
    | true => forceL cs fun cs' => k ⟨v', e, z, cs'⟩
    | false => k ⟨v', e, z, cs⟩
theorem forceCs_eq (b : Bool) (r : Row) (k : Row → Prop) : forceCs b r k = k r := by
  cases r
  unfold forceCs
  simp only [forceN_eq]
  cases b
  · rfl
  · simp only [forceL_eq]
def forceBs (bs : List Bool) (rs : List Row) (k : List Row → Prop) : Prop :=
  match rs with
  | [] => k []
  | r :: rs => match bs with
    | [] => forceCs false r fun r' => forceBs [] rs fun rs' => k (r' :: rs')
    | b :: bs => forceCs b r fun r' => forceBs bs rs fun rs' => k (r' :: rs')
theorem forceBs_eq : ∀ (rs : List Row) (bs : List Bool) (k : List Row → Prop), forceBs bs rs k = k rs
  | [], bs, k => by cases bs <;> rfl
  | r :: rs, [], k => by
    unfold forceBs
    simp only [forceCs_eq, forceBs_eq rs]
  | r :: rs, b :: bs, k => by
    unfold forceBs
    simp only [forceCs_eq, forceBs_eq rs]
def forceSt (bs : List Bool) (s : St) (k : St → Prop) : Prop :=
  match s with
  | ⟨env, rows, ctr, low⟩ => forceE env fun env' => forceBs bs rows fun rows' => forceN ctr fun ctr' => forceN low fun low' => k ⟨env', rows', ctr', low'⟩
theorem forceSt_eq (bs : List Bool) (s : St) (k : St → Prop) : forceSt bs s k = k s := by
  cases s; unfold forceSt; simp only; rw [forceE_eq, forceBs_eq, forceN_eq, forceN_eq]
theorem to_force {s C : St} (bs : List Bool) (h : forceSt bs s fun s' => s'.to C) : s.to C := by rw [forceSt_eq] at h; exact h
end Go.Am
namespace Go.Proofs.YtjmdhfjemaoebaaGreat
set_option maxRecDepth 20000
open Go.RowKit Go.Am
set_option linter.unusedSimpArgs false
theorem get_oss {l : List AV} {o o' : Nat} {r : AV} {K : AV → Prop} (ho : o' = o) (h : o < l.length) (hK : K r) : aGet ((l.set o r).drop o') 0 K :=
  ⟨r, by rw [ho, List.getElem?_drop, Nat.add_zero, List.getElem?_set_self h], hK⟩
theorem get_oi0 {t : TypeId} {xss : List (List Int)} {x : List Int} {K : AV → Prop} (hx : xss.getD 0 [] = x) (h : 0 < xss.length) (hK : K (ownI t x)) : aGet ((xss.map (ownI t)).drop (0 + Int.toNat 0 * 1)) 0 K := by
  subst hx
  exact get_map [] rfl h hK
theorem chL_get {xss : List (List Int)} {ns : List Nd} {x : List Int} {r : List (List Int)} (h : chL xss ns = x :: r) : (chL xss ns).getD 0 [] = x ∧ 0 < (chL xss ns).length := by
  rw [h]; exact ⟨rfl, Nat.succ_pos _⟩
attribute [local irreducible] aPlan aGet aIf aLoop aCall RetB NextB CallB CallG aCut aSet aAppend
theorem iChangeDo_callL {c : Nat} {ch p : Int} {xss : List (List Int)} {ns L : List Nd} {env : List AV} {rows : List Row} {ctr low : Nat} {k : AV → St → Prop} (hE : eP ns) (hO : cdO xss ns ch p = some L)
    (h : k (.tup [.agg [.ref rows.length ctr 0 xss.length, .ref (rows.length + 1) ctr 0 L.length], .bool true]) ⟨env, rows ++ [⟨ctr, 38, 1, xss.map (ownI 3)⟩, ⟨ctr, 75, 4, L.flatMap (ndO 3)⟩], ctr + 1, low⟩) :
    CallB Tryz.prog 44 ⟨env, rows, ctr, low⟩ [.agg [.sl c xss.length (xss.map (slI c)), .sl c ns.length (ns.flatMap (ndC c))], .int .i64 ch, .int .i64 p] k := by
  have e := iChangeDo_call (c := c) (ch := ch) (p := p) (xss := xss) (ns := ns) (env := env) (rows := rows) (ctr := ctr) (low := low) (k := k) hE
  rw [cdE_s hO, hO] at e
  exact e h
theorem sChangeDo_callL {c : Nat} {ch p : Int} {xss : List (List Int)} {ns L : List Nd} {env : List AV} {rows : List Row} {ctr low : Nat} {k : AV → St → Prop} (hE : eP ns) (hO : cdO xss ns ch p = some L)
    (h : k (.tup [.agg [.ref rows.length ctr 0 xss.length, .ref (rows.length + 1) ctr 0 L.length], .bool true]) ⟨env, rows ++ [⟨ctr, 38, 1, xss.map (ownI 3)⟩, ⟨ctr, 75, 4, L.flatMap (ndO 3)⟩], ctr + 1, low⟩) :
    CallB Tryz.prog 38 ⟨env, rows, ctr, low⟩ [.agg [.sl c xss.length (xss.map (slI c)), .sl c ns.length (ns.flatMap (ndC c))], .int .i64 ch, .int .i64 p] k := by
  have e := sChangeDo_call (c := c) (ch := ch) (p := p) (xss := xss) (ns := ns) (env := env) (rows := rows) (ctr := ctr) (low := low) (k := k) hE
  rw [cdE_s hO, hO] at e
  exact e h
end Go.Proofs.YtjmdhfjemaoebaaGreat
