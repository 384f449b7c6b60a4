import Derived.Test.YtjmdhfjemaoebaaGreatM1x2
import Derived.Test.YtjmdhfjemaoebaaGreatM01x31
import Derived.Test.YtjmdhfjemaoebaaGreatM1x1
namespace Go.Proofs.YtjmdhfjemaoebaaGreat
set_option maxRecDepth 20000
open Go.RowKit Go.Am
set_option linter.unusedSimpArgs false
attribute [local irreducible] aPlan aGet aIf aLoop aCall RetB NextB CallB CallG aCut aSet aAppend Held
def sAlongOf : CSpec := fnTB (ι := Nat × List (List Int) × List Nd × Nat × List T2 × Nat × List T2) 3 (fun | (c, xss, ns, d, ts, e, us) => [.agg [.sl c xss.length (xss.map (slI c)), .sl c ns.length (ns.flatMap (ndC c))], .sl d ts.length (ts.flatMap (tnC d)), .sl e us.length (us.flatMap (tnC e))]) (fun | (_, _, ns, _, _, _, _) => eP ns) (fun | (_, xss, ns, _, ts, _, us) => alM xss ns ts us)
set_option maxHeartbeats 16000000 in
theorem iAlongOf_sound : Sound Tryz.prog 18 sAlongOf := by
  refine sound_of Tryz.func18 rfl (enters_of Tryz.func18 (by kernel_rfl) (by kernel_rfl)) ?_
  rintro ⟨c, xss, ns, d, ts, e, us⟩ hpre
  have hE : eP ns := hpre
  have hmax : maxLen = 9223372036854775807 := rfl
  by_cases hC : AlC xss ns ts us
  · obtain ⟨hv, hS, hu⟩ := hC
    have hC : AlC xss ns ts us := ⟨hv, hS, hu⟩
    obtain ⟨hP, hva⟩ := vaM_true hv
    obtain ⟨⟨h1, h12⟩, -⟩ := shM_form hP.1
    obtain ⟨ss, hss⟩ : ∃ ss, shTo xss ns ns.length = some ss := by
      cases e : shTo xss ns ns.length with
      | some ss => exact ⟨ss, rfl⟩
      | none => have := hP.1; rw [shM_n e] at this; cases this
    have hsM : (shM xss ns).1 = ss := by
      by_cases hI : insOk xss ∧ 1 ≤ ns.length ∧ ns.length ≤ 12
      · rw [shM_t hI hss]
      · have := hP.1; rw [shM_f hI] at this; cases this
    have hvl := vaTo_len hva
    obtain ⟨vs, hW⟩ : ∃ vs, (vaM xss ns ts).1 = vs := ⟨_, rfl⟩
    rw [hW] at hva hvl
    conv => whnf
    repeat' (first
      | ((first | refine tree_inF [59] (id := 8) (.one 0 (.one 1 (.one 2 (.one 3 (.one 4 (.one 5 (.one 6 (.one 7 (.one 8 (.two 9 13 (.one 10 (.one 11 (.one 12 (.one 13 (.one 14 (.one 15 .nil)))))) (.one 9 (.one 10 (.one 11 (.one 12 (.one 14 (.one 15 .nil)))))))))))))))) (by kernel_rfl) (by kernel_rfl) ?_ | refine And.intro (And.intro (show (0 : Int) ≤ _ by omega) (And.intro (by kernel_rfl) (And.intro rfl (by kernel_rfl)))) (And.intro (And.intro (by omega) (And.intro (bytes_le (b := 48) rfl (by omega)) (by omega))) ?_) | refine aIf_t ?_ | refine aIf_f ?_ | refine fun (_ : _ ≤ maxLen) => ?_ | refine aGet_in rfl ?_ | refine load_same ?_ | refine And.intro rfl (And.intro (List.cons_ne_nil _ _) ?_) | refine And.intro (Nat.le_of_ble_eq_true rfl) ?_); conv => whnf) | (refine held_in (f := 59) ?_) | ((first | refine callG_t ?_ | refine append_same ?_ | refine And.intro (pureL_ii _ _) ?_ | refine And.intro (pureL_nd _ _) ?_ | refine And.intro (pureL_tn _ _) ?_); conv => whnf) | (refine iSmoothOk_call (by first | omega | assumption | (refine ⟨?_, ?_⟩ <;> first | assumption | omega) | (refine ⟨?_, ?_, ?_⟩ <;> first | assumption | omega)) ?_; conv => whnf) | (refine iValuesOf_call (by assumption) ?_; conv => whnf) | (refine iInputsOk_call (by first | omega | assumption | (refine ⟨?_, ?_⟩ <;> first | assumption | omega) | (refine ⟨?_, ?_, ?_⟩ <;> first | assumption | omega)) ?_; conv => whnf) | ((first | refine takeN_in ?_ | refine set_force ?_ | refine And.intro (by kernel_rfl) ?_ | refine aIf_tt (by assumption) ?_); conv => whnf) | refine aIf_eqf ?_
      | refine aIf_not ?_ | (refine aIf_dec (fun _ => ?_) (fun _ => ?_) <;> conv => whnf))
    all_goals (first | (exfalso; omega) | contradiction | skip)
    rw [hW]
    refine loop_ut (ι := List T2) [false, false, true, false, false, false, true, false, true, false, true, false, false, false, false, false, false, false, false, false, false, false, false, false, false, false, false, false, false, false, false, false, false, false, false, false, false, false, false, false, true, true, true, false, false, false, false, false, false, false, false, false, false, false, false, false, false, false, false, false, false, false, false, false, false, false, false, false, false, false, false, false, false, false] (fun ls => [(10, .ref 5 8 0 ls.length), (42, .int .i64 ls.length)]) (fun ls => [(4, vs.flatMap (tnO 3)), (5, ls.flatMap (tnO 3) ++ (List.replicate (ns.length - ls.length) [AV.nil, AV.nil]).flatten)]) (fun ls => ls.length ≤ ns.length ∧ slTo ns ss us vs ls.length = some ls) (fun ls => ns.length - ls.length) ([]) ⟨Nat.zero_le _, rfl⟩ ?_ ?_
    · conv => whnf
      refine St.le.to ?_
      conv => whnf
      repeat' (first | exact le_cells (show rep (ns.length : Int).toNat [AV.nil, AV.nil] = ([] : List T2).flatMap (tnO 3) ++ (List.replicate (ns.length - 0) [AV.nil, AV.nil]).flatten by simp [rep]) (pureL_app (pureL_otn _ _) (pureL_repF _ rfl _)) | refine And.intro ?_ ?_)
      repeat' (first
        | exact trivial | exact rfl
        | exact Or.inl (And.intro rfl rfl) | exact pureL_ii _ _
        | exact pureL_nd _ _ | exact pureL_tn _ _
        | exact Or.inl (And.intro (pureL_otn _ _) rfl) | refine Or.inr ?_
        | refine And.intro ?_ ?_ | exact Nat.le_of_ble_eq_true rfl)
    · rintro ls ⟨hsl, hls⟩
      have hsl : ls.length ≤ ns.length := hsl
      have hfl : (ls.flatMap (tnO 3)).length = ls.length * 2 := flat_len (tnO_length _) ls
      have hfv : (vs.flatMap (tnO 3)).length = vs.length * 2 := flat_len (tnO_length _) vs
      by_cases hlt : ls.length < ns.length
      · have hvk : ls.length < vs.length := by omega
        have hsh : ss.getD ls.length [] = (vs.getD ls.length ([], [])).1 := by
          have h2 := va_shapes hP hE hss (Nat.le_refl _) hva
          rw [List.take_of_length_le (by rw [shTo_len hss]; exact Nat.le_refl _)] at h2
          rw [← h2, getD_fst]
        have hp := SlP_of hP hu hE hss hva hlt hls
        rw [hsh] at hp
        have hq : 0 + (ls.length : Int).toNat * (0 + 2) + 0 = ls.length * 2 + 0 := by omega
        cases hb : (slM (ns.getD ls.length default) (vs.getD ls.length ([], [])).1 us vs ls).2.2 with
        | true =>
          have hn' : slTo ns ss us vs (ls.length + 1) = some (ls ++ [((slM (ns.getD ls.length default) (vs.getD ls.length ([], [])).1 us vs ls).1, (slM (ns.getD ls.length default) (vs.getD ls.length ([], [])).1 us vs ls).2.1)]) := by
            have := slTo_t hls (show (slM (ns.getD ls.length default) (ss.getD ls.length []) us vs ls).2.2 = true by rw [hsh]; exact hb)
            rw [hsh] at this; exact this
          have hlen : (ls ++ [((slM (ns.getD ls.length default) (vs.getD ls.length ([], [])).1 us vs ls).1, (slM (ns.getD ls.length default) (vs.getD ls.length ([], [])).1 us vs ls).2.1)]).length = ls.length + 1 := by simp
          conv => whnf
          repeat' (first
            | (refine tree_inF [59] (id := 8) (.one 0 (.one 1 (.one 2 (.one 3 (.one 4 (.one 5 (.one 6 (.one 7 (.one 8 (.two 9 13 (.one 10 (.one 11 (.one 12 (.one 13 (.one 14 (.one 15 .nil)))))) (.one 9 (.one 10 (.one 11 (.one 12 (.one 14 (.one 15 .nil)))))))))))))))) (by kernel_rfl) (by kernel_rfl) ?_; conv => whnf) | (refine fork_in ?_ ?_ <;> conv => whnf) | ((first | refine fun (_ : _ ≤ maxLen) => ?_ | refine And.intro (by omega) ?_ | refine load_same ?_ | refine And.intro (Nat.le_of_ble_eq_true rfl) ?_); conv => whnf) | (refine held_in (f := 59) ?_) | ((first | refine append_same ?_ | refine part_nd_n (by omega) ?_ | refine get_otn_n (by omega) rfl ?_ | refine takeN_in ?_ | refine set_force ?_ | refine And.intro (by kernel_rfl) ?_); conv => whnf) | (refine aIf_dec (fun _ => ?_) (fun _ => ?_) <;> conv => whnf))
          all_goals (first | (exfalso; omega) | contradiction | skip)
          all_goals
            refine held_out (nodeSlope_callG hp hvk hq rfl rfl rfl rfl rfl rfl rfl rfl ?_)
            conv => whnf
            repeat' (first
              | ((first | refine tree_inF [59] (id := 8) (.one 0 (.one 1 (.one 2 (.one 3 (.one 4 (.one 5 (.one 6 (.one 7 (.one 8 (.two 9 13 (.one 10 (.one 11 (.one 12 (.one 13 (.one 14 (.one 15 .nil)))))) (.one 9 (.one 10 (.one 11 (.one 12 (.one 14 (.one 15 .nil)))))))))))))))) (by kernel_rfl) (by kernel_rfl) ?_ | refine aGet_in rfl ?_ | refine load_same ?_ | refine And.intro (Nat.le_of_ble_eq_true rfl) ?_); conv => whnf) | (refine held_in (f := 59) ?_) | ((first | refine append_same ?_ | refine takeN_in ?_ | refine set_force ?_ | refine And.intro (And.intro (by kernel_rfl) (And.intro rfl (Nat.le_of_ble_eq_true rfl))) ?_ | refine And.intro (by kernel_rfl) ?_ | refine aIf_tt (by assumption) ?_); conv => whnf) | refine aIf_not ?_)
            all_goals (first | (exfalso; omega) | contradiction | skip)
            refine append_tr rfl hfl rfl rfl rfl (by omega) ?_
            conv => whnf
            repeat' (first
              | (refine tree_inF [59] (id := 8) (.one 0 (.one 1 (.one 2 (.one 3 (.one 4 (.one 5 (.one 6 (.one 7 (.one 8 (.two 9 13 (.one 10 (.one 11 (.one 12 (.one 13 (.one 14 (.one 15 .nil)))))) (.one 9 (.one 10 (.one 11 (.one 12 (.one 14 (.one 15 .nil)))))))))))))))) (by kernel_rfl) (by kernel_rfl) ?_; conv => whnf) | (refine held_in (f := 59) ?_) | (refine append_same ?_; conv => whnf))
            refine next_ut (ls ++ [((slM (ns.getD ls.length default) (vs.getD ls.length ([], [])).1 us vs ls).1, (slM (ns.getD ls.length default) (vs.getD ls.length ([], [])).1 us vs ls).2.1)]) (show ns.length - (ls ++ [((slM (ns.getD ls.length default) (vs.getD ls.length ([], [])).1 us vs ls).1, (slM (ns.getD ls.length default) (vs.getD ls.length ([], [])).1 us vs ls).2.1)]).length < ns.length - ls.length by omega) ⟨(by omega : (ls ++ [((slM (ns.getD ls.length default) (vs.getD ls.length ([], [])).1 us vs ls).1, (slM (ns.getD ls.length default) (vs.getD ls.length ([], [])).1 us vs ls).2.1)]).length ≤ ns.length), by rw [hlen]; exact hn'⟩ ?_
            conv => whnf
            first
              | refine to_close 4 _ 8 _ _ 1 3 _ _ rfl (get_set7 hvk hq) rfl (by decide) (Nat.zero_le _) (by decide) (by simp) ?_ | refine to_close 4 _ 11 _ _ 1 3 _ _ rfl (get_set7 hvk hq) rfl (by decide) (Nat.zero_le _) (by decide) (by simp) ?_
            first
              | refine to_close 5 (ls.length * 2 + 0) 9 _ _ 1 3 _ _ rfl (get_a0 hfl) rfl (by decide) (Nat.zero_le _) (by decide) (by simp) ?_ | refine to_close 5 (ls.length * 2 + 0) 12 _ _ 1 3 _ _ rfl (get_a0 hfl) rfl (by decide) (Nat.zero_le _) (by decide) (by simp) ?_
            first
              | refine to_close 5 (ls.length * 2 + 1) 10 _ _ 1 3 _ _ rfl (get_a1 hfl) rfl (by decide) (Nat.zero_le _) (by decide) (by simp) ?_ | refine to_close 5 (ls.length * 2 + 1) 13 _ _ 1 3 _ _ rfl (get_a1 hfl) rfl (by decide) (Nat.zero_le _) (by decide) (by simp) ?_
            refine St.le.to ?_
            conv => whnf
            repeat' (first | exact le_snocT rfl (by rw [hlen]; omega) | exact le_back hvk hq | refine And.intro ?_ ?_)
            repeat' (first
              | exact trivial | exact rfl
              | exact Or.inl (And.intro rfl rfl) | exact pureL_ii _ _
              | exact pureL_nd _ _ | exact pureL_tn _ _
              | refine Or.inr ?_ | refine And.intro ?_ ?_
              | exact Nat.le_of_ble_eq_true rfl | exact List.length_append
              | exact int_eq (by rw [IntWalk.i64_in _ (by omega)] <;> omega))
        | false =>
          have hM := alM_n (show slTo ns (shM xss ns).1 us (vaM xss ns ts).1 ns.length = none by rw [hsM, hW]; exact slTo_none (slTo_f hls (show (slM (ns.getD ls.length default) (ss.getD ls.length []) us vs ls).2.2 = false by rw [hsh]; exact hb)) _ (by omega))
          conv => whnf
          repeat' (first
            | (refine tree_inF [59] (id := 8) (.one 0 (.one 1 (.one 2 (.one 3 (.one 4 (.one 5 (.one 6 (.one 7 (.one 8 (.two 9 13 (.one 10 (.one 11 (.one 12 (.one 13 (.one 14 (.one 15 .nil)))))) (.one 9 (.one 10 (.one 11 (.one 12 (.one 14 (.one 15 .nil)))))))))))))))) (by kernel_rfl) (by kernel_rfl) ?_; conv => whnf) | (refine fork_in ?_ ?_ <;> conv => whnf) | ((first | refine fun (_ : _ ≤ maxLen) => ?_ | refine And.intro (by omega) ?_ | refine load_same ?_ | refine And.intro (Nat.le_of_ble_eq_true rfl) ?_); conv => whnf) | (refine held_in (f := 59) ?_) | ((first | refine append_same ?_ | refine part_nd_n (by omega) ?_ | refine get_otn_n (by omega) rfl ?_ | refine takeN_in ?_ | refine set_force ?_ | refine And.intro (by kernel_rfl) ?_); conv => whnf) | (refine aIf_dec (fun _ => ?_) (fun _ => ?_) <;> conv => whnf))
          all_goals (first | (exfalso; omega) | contradiction | skip)
          all_goals
            refine held_out (nodeSlope_callG hp hvk hq rfl rfl rfl rfl rfl rfl rfl rfl ?_)
            conv => whnf
            repeat' (first
              | ((first | refine tree_inF [59] (id := 8) (.one 0 (.one 1 (.one 2 (.one 3 (.one 4 (.one 5 (.one 6 (.one 7 (.one 8 (.two 9 13 (.one 10 (.one 11 (.one 12 (.one 13 (.one 14 (.one 15 .nil)))))) (.one 9 (.one 10 (.one 11 (.one 12 (.one 14 (.one 15 .nil)))))))))))))))) (by kernel_rfl) (by kernel_rfl) ?_ | refine aGet_in rfl ?_ | refine And.intro (Nat.le_of_ble_eq_true rfl) ?_); conv => whnf) | (refine held_in (f := 59) ?_) | ((first | refine append_same ?_ | refine takeN_in ?_ | refine set_force ?_ | refine And.intro (by kernel_rfl) ?_ | refine aIf_ff (by assumption) ?_); conv => whnf) | refine aIf_not ?_)
            all_goals (first | (exfalso; omega) | contradiction | skip)
            all_goals (refine retTB (hM := hM) ?_ ?_ ?_ ?_ ?_ <;> first | exact rfl | decide | (simp; done))
      · have he : ls.length = ns.length := by omega
        have e0 : ns.length - ls.length = 0 := by omega
        have hM := alM_t hC (show slTo ns (shM xss ns).1 us (vaM xss ns ts).1 ns.length = some ls by rw [hsM, hW, ← he]; exact hls)
        rw [e0, List.replicate_zero, List.flatten_nil, show ls.flatMap (tnO 3) ++ [] = ls.flatMap (tnO 3) from List.append_nil _]
        conv => whnf
        repeat' (first
          | (refine tree_inF [59] (id := 8) (.one 0 (.one 1 (.one 2 (.one 3 (.one 4 (.one 5 (.one 6 (.one 7 (.one 8 (.two 9 13 (.one 10 (.one 11 (.one 12 (.one 13 (.one 14 (.one 15 .nil)))))) (.one 9 (.one 10 (.one 11 (.one 12 (.one 14 (.one 15 .nil)))))))))))))))) (by kernel_rfl) (by kernel_rfl) ?_; conv => whnf) | (refine fork_in ?_ ?_ <;> conv => whnf) | ((first | refine fun (_ : _ ≤ maxLen) => ?_ | refine And.intro (by omega) ?_ | refine load_same ?_); conv => whnf) | (refine held_in (f := 59) ?_) | ((first | refine append_same ?_ | refine part_nd_n (by omega) ?_ | refine get_otn_n (by omega) rfl ?_ | refine takeN_in ?_ | refine set_force ?_); conv => whnf) | (refine aIf_dec (fun _ => ?_) (fun _ => ?_) <;> conv => whnf))
        all_goals (first | (exfalso; omega) | contradiction | skip)
        have hw : IntKind.i64.wrap ((ls.length : Int) - 1) = (ls.length : Int) - 1 := by simp only [IntKind.wrap_i64]; omega
        have ho : 0 + ((ls.length : Int) - 1).toNat * (0 + 2) = (ls.length - 1) * 2 := by omega
        obtain ⟨A, B, hA, hs, -⟩ := flat_split (f := tnO 3) (fun x => tnO_length _ x) ([], []) (l := ls) (k := ls.length - 1) (by omega)
        rw [hw]
        refine And.intro (by omega) ?_
        rw [ho, hs]
        conv => whnf
        refine Exists.intro _ (And.intro (St.opens.step _ _ 5 ((ls.length - 1) * 2 + 0) _ 3 1 _ _ rfl (get_a0 hA) (St.opens.step _ _ 5 ((ls.length - 1) * 2 + 1) _ 3 1 _ _ rfl (get_a1 hA) (St.opens.refl _))) ?_)
        refine load_in7 rfl rfl (drop_ab7 hA) ?_
        conv => whnf
        repeat' (first
          | ((first | refine tree_inF [59] (id := 8) (.one 0 (.one 1 (.one 2 (.one 3 (.one 4 (.one 5 (.one 6 (.one 7 (.one 8 (.two 9 13 (.one 10 (.one 11 (.one 12 (.one 13 (.one 14 (.one 15 .nil)))))) (.one 9 (.one 10 (.one 11 (.one 12 (.one 14 (.one 15 .nil)))))))))))))))) (by kernel_rfl) (by kernel_rfl) ?_ | refine And.intro (Nat.le_of_ble_eq_true rfl) ?_); conv => whnf) | (refine held_in (f := 59) ?_) | ((first | refine append_same ?_ | refine takeN_in ?_ | refine set_force ?_ | refine And.intro (by kernel_rfl) ?_); conv => whnf))
        have hs1 : ls.length = ns.length := he
        all_goals (refine retTB (hM := hM.trans (by rw [← he])) ?_ ?_ ?_ ?_ ?_ <;> first | exact rfl | decide | (simp; done))
  · have hM := alM_f hC
    cases hv : (vaM xss ns ts).2 with
    | false =>
      conv => whnf
      repeat' (first
        | ((first | refine tree_inF [59] (id := 8) (.one 0 (.one 1 (.one 2 (.one 3 (.one 4 (.one 5 (.one 6 (.one 7 (.one 8 (.two 9 13 (.one 10 (.one 11 (.one 12 (.one 13 (.one 14 (.one 15 .nil)))))) (.one 9 (.one 10 (.one 11 (.one 12 (.one 14 (.one 15 .nil)))))))))))))))) (by kernel_rfl) (by kernel_rfl) ?_ | refine aIf_t ?_ | refine aIf_f ?_ | refine aGet_in rfl ?_ | refine load_same ?_ | refine And.intro rfl (And.intro (List.cons_ne_nil _ _) ?_) | refine And.intro (Nat.le_of_ble_eq_true rfl) ?_); conv => whnf) | (refine held_in (f := 59) ?_) | ((first | refine callG_t ?_ | refine append_same ?_ | refine And.intro (pureL_ii _ _) ?_ | refine And.intro (pureL_nd _ _) ?_ | refine And.intro (pureL_tn _ _) ?_ | refine iValuesOf_call (by assumption) ?_ | refine takeN_in ?_ | refine set_force ?_ | refine And.intro (by kernel_rfl) ?_ | refine aIf_ff (by assumption) ?_); conv => whnf) | refine aIf_eqf ?_
        | refine aIf_not ?_)
      all_goals (first | (exfalso; omega) | contradiction | skip)
      all_goals (refine retTB (hM := hM) ?_ ?_ ?_ ?_ ?_ <;> first | exact rfl | decide | (simp; done))
    | true =>
      by_cases hS : smP xss ns
      · have hU : ¬ inP xss ns us := fun h => hC ⟨hv, hS, h⟩
        conv => whnf
        repeat' (first
          | ((first | refine tree_inF [59] (id := 8) (.one 0 (.one 1 (.one 2 (.one 3 (.one 4 (.one 5 (.one 6 (.one 7 (.one 8 (.two 9 13 (.one 10 (.one 11 (.one 12 (.one 13 (.one 14 (.one 15 .nil)))))) (.one 9 (.one 10 (.one 11 (.one 12 (.one 14 (.one 15 .nil)))))))))))))))) (by kernel_rfl) (by kernel_rfl) ?_ | refine aIf_t ?_ | refine aIf_f ?_ | refine fun (_ : _ ≤ maxLen) => ?_ | refine aGet_in rfl ?_ | refine load_same ?_ | refine And.intro rfl (And.intro (List.cons_ne_nil _ _) ?_) | refine And.intro (Nat.le_of_ble_eq_true rfl) ?_); conv => whnf) | (refine held_in (f := 59) ?_) | ((first | refine callG_t ?_ | refine append_same ?_ | refine And.intro (pureL_ii _ _) ?_ | refine And.intro (pureL_nd _ _) ?_ | refine And.intro (pureL_tn _ _) ?_); conv => whnf) | (refine iSmoothOk_call (by first | omega | assumption | (refine ⟨?_, ?_⟩ <;> first | assumption | omega) | (refine ⟨?_, ?_, ?_⟩ <;> first | assumption | omega)) ?_; conv => whnf) | (refine iValuesOf_call (by assumption) ?_; conv => whnf) | (refine iInputsOk_call (by first | omega | assumption | (refine ⟨?_, ?_⟩ <;> first | assumption | omega) | (refine ⟨?_, ?_, ?_⟩ <;> first | assumption | omega)) ?_; conv => whnf) | ((first | refine takeN_in ?_ | refine set_force ?_ | refine And.intro (by kernel_rfl) ?_ | refine aIf_tt (by assumption) ?_); conv => whnf) | refine aIf_eqf ?_
          | refine aIf_not ?_ | (refine aIf_dec (fun _ => ?_) (fun _ => ?_) <;> conv => whnf))
        all_goals (first | (exfalso; omega) | contradiction | skip)
        all_goals (refine retTB (hM := hM) ?_ ?_ ?_ ?_ ?_ <;> first | exact rfl | decide | (simp; done))
      · conv => whnf
        repeat' (first
          | ((first | refine tree_inF [59] (id := 8) (.one 0 (.one 1 (.one 2 (.one 3 (.one 4 (.one 5 (.one 6 (.one 7 (.one 8 (.two 9 13 (.one 10 (.one 11 (.one 12 (.one 13 (.one 14 (.one 15 .nil)))))) (.one 9 (.one 10 (.one 11 (.one 12 (.one 14 (.one 15 .nil)))))))))))))))) (by kernel_rfl) (by kernel_rfl) ?_ | refine aIf_t ?_ | refine aIf_f ?_ | refine fun (_ : _ ≤ maxLen) => ?_ | refine aGet_in rfl ?_ | refine load_same ?_ | refine And.intro rfl (And.intro (List.cons_ne_nil _ _) ?_) | refine And.intro (Nat.le_of_ble_eq_true rfl) ?_); conv => whnf) | (refine held_in (f := 59) ?_) | ((first | refine callG_t ?_ | refine append_same ?_ | refine And.intro (pureL_ii _ _) ?_ | refine And.intro (pureL_nd _ _) ?_ | refine And.intro (pureL_tn _ _) ?_); conv => whnf) | (refine iSmoothOk_call (by first | omega | assumption | (refine ⟨?_, ?_⟩ <;> first | assumption | omega) | (refine ⟨?_, ?_, ?_⟩ <;> first | assumption | omega)) ?_; conv => whnf) | (refine iValuesOf_call (by assumption) ?_; conv => whnf) | (refine iInputsOk_call (by first | omega | assumption | (refine ⟨?_, ?_⟩ <;> first | assumption | omega) | (refine ⟨?_, ?_, ?_⟩ <;> first | assumption | omega)) ?_; conv => whnf) | ((first | refine takeN_in ?_ | refine set_force ?_ | refine And.intro (by kernel_rfl) ?_ | refine aIf_tt (by assumption) ?_); conv => whnf) | refine aIf_eqf ?_
          | refine aIf_not ?_ | (refine aIf_dec (fun _ => ?_) (fun _ => ?_) <;> conv => whnf))
        all_goals (first | (exfalso; omega) | contradiction | skip)
        all_goals (refine retTB (hM := hM) ?_ ?_ ?_ ?_ ?_ <;> first | exact rfl | decide | (simp; done))
end Go.Proofs.YtjmdhfjemaoebaaGreat
