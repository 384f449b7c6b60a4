import Derived.Test.YtilimbdpdpfalaaM0x12
import Derived.Test.YtilimbdpdpfalaaM0x11
/- Chapter 3: NeededOf of the model. -/
namespace Go.Proofs.Ytilimbdpdpfalaa
set_option maxRecDepth 20000
open Go.RowKit Go.Am
set_option linter.unusedSimpArgs false
attribute [local irreducible] aPlan aGet aIf aLoop aCall RetB NextB CallB CallG aCut aSet aAppend
set_option maxHeartbeats 4000000 in
theorem sNeededOf_sound : Sound Try.prog 37 sNeeded := by
  refine sound_of Try.func37 rfl (enters_of Try.func37 (by kernel_rfl) (by kernel_rfl)) ?_
  rintro ⟨c, xss, ns⟩ hpre
  have hE : eP ns := hpre
  have hmax : maxLen = 9223372036854775807 := rfl
  cases hM : (shM xss ns).2 with
  | false =>
    conv => whnf
    repeat' (first
      | (refine load_same ?_; conv => whnf)
      | (refine And.intro rfl (And.intro (List.cons_ne_nil _ _) ?_); conv => whnf)
      | (refine And.intro (Nat.le_of_ble_eq_true rfl) ?_; conv => whnf)
      | (refine callG_t ?_; conv => whnf)
      | (refine And.intro (pureL_ii _ _) ?_; conv => whnf)
      | (refine And.intro (pureL_nd _ _) ?_; conv => whnf)
      | (refine sExprOk_call (by first | omega | assumption | (refine ⟨?_, ?_⟩ <;> first | assumption | omega) | (refine ⟨?_, ?_, ?_⟩ <;> first | assumption | omega)) ?_; conv => whnf)
      | (refine takeN_in ?_; conv => whnf)
      | (refine And.intro (by kernel_rfl) ?_; conv => whnf)
      | (refine aIf_ff (by assumption) ?_; conv => whnf)
      | refine aIf_not ?_)
    exact retBM (if_neg (by rw [hM]; decide)) rfl rfl
  | true =>
    obtain ⟨⟨h1, h12⟩, hform⟩ := shM_form hM
    have hw : IntKind.i64.wrap ((ns.length : Int) - 1) = ns.length - 1 := IntWalk.i64_in _ (by omega)
    have hw2 : IntKind.i64.wrap ((((ns.length : Int).toNat : Nat) : Int) - 1) = ns.length - 1 := by rw [IntWalk.i64_in _ (by omega)]; omega
    have hi0 := neI_0 (w := IntKind.i64.wrap ((((ns.length : Int).toNat : Nat) : Int) - 1)) h1 hw2
    conv => whnf
    repeat' (first
      | (refine fun (_ : _ ≤ maxLen) => ?_; conv => whnf)
      | (refine aGet_in rfl ?_; conv => whnf)
      | (refine And.intro (by omega) ?_; conv => whnf)
      | (refine load_same ?_; conv => whnf)
      | (refine And.intro rfl (And.intro (List.cons_ne_nil _ _) ?_); conv => whnf)
      | (refine And.intro (Nat.le_of_ble_eq_true rfl) ?_; conv => whnf)
      | (refine callG_t ?_; conv => whnf)
      | (refine And.intro (pureL_ii _ _) ?_; conv => whnf)
      | (refine And.intro (pureL_nd _ _) ?_; conv => whnf)
      | (refine And.intro (repb_fit rfl (by omega)) ?_; conv => whnf)
      | (refine set_repb rfl (by omega) ?_; conv => whnf)
      | (refine sExprOk_call (by first | omega | assumption | (refine ⟨?_, ?_⟩ <;> first | assumption | omega) | (refine ⟨?_, ?_, ?_⟩ <;> first | assumption | omega)) ?_; conv => whnf)
      | (refine takeN_in ?_; conv => whnf)
      | (refine And.intro (And.intro (Int.le_refl _) (And.intro (by kernel_rfl) (And.intro rfl (by kernel_rfl)))) (And.intro (And.intro (by omega) (And.intro (bytes_le (b := 1) rfl (by omega)) (by omega))) ?_); conv => whnf)
      | (refine And.intro (by kernel_rfl) ?_; conv => whnf)
      | (refine aIf_tt (by assumption) ?_; conv => whnf)
      | refine aIf_not ?_)
    refine loop_u (ι := Int) [false, true, false, true, true, false, false, false, false, false, false, false, false, false, false, false, false, false, false, false, false, false, false, false, false, false, false, false, false, false, false, false, false, false, false, false, false, false, false, false, false, false, false, false, false, false, false, false, false, false, false, false, false, false, false, false, false, false, false, false, false, false, false] (fun i => [(4, .int .i64 i)]) (fun i => [(2, (neI ns i).map .bool)]) (fun i => -1 ≤ i ∧ i < ns.length) (fun i => (i + 1).toNat) (((ns.length : Int) - 1)) ⟨by omega, by omega⟩ ?_ ?_
    · conv => whnf
      repeat' (first | exact le_bools hi0 | exact int_eq hw | exact int_eq (hw2 : _ = _) | refine And.intro ?_ ?_)
      repeat' (first
        | exact trivial
        | exact rfl
        | exact Or.inl (And.intro rfl rfl)
        | exact pureL_ii _ _
        | exact pureL_nd _ _
        | refine Or.inr ?_
        | refine And.intro ?_ ?_
        | exact Nat.le_of_ble_eq_true rfl)
    · rintro i ⟨hi1, hi2⟩
      have hi1 : -1 ≤ i := hi1
      have hi2 : i < ns.length := hi2
      have hl := neI_length ns i
      by_cases hge : 0 ≤ i
      · obtain ⟨f1, f2, f3, f4, f5, f6, f7⟩ := hform i.toNat (by omega)
        cases hb : (neI ns i).getD i.toNat false with
        | false =>
          have hn := neI_f hge hi2 hb
          have hb1 : (neI ns i).getD (i.toNat * 1) false = false := by rw [Nat.mul_one]; exact hb
          conv => whnf
          repeat' (first
            | (refine aIf_f ?_; conv => whnf)
            | (refine aGet_in rfl ?_; conv => whnf)
            | (refine And.intro (by omega) ?_; conv => whnf)
            | (refine And.intro (Nat.le_of_ble_eq_true rfl) ?_; conv => whnf)
            | (refine part_nd (by omega) ?_; conv => whnf)
            | (refine getb_n (by omega) ?_; conv => whnf)
            | (refine set_force ?_; conv => whnf)
            | (refine And.intro (by kernel_rfl) ?_; conv => whnf)
            | (refine aIf_ff (by assumption) ?_; conv => whnf)
            | refine aIf_eqt ?_
            | (refine aIf_dec (fun _ => ?_) (fun _ => ?_) <;> conv => whnf))
          all_goals (first | (exfalso; omega) | contradiction | skip)
          refine next_u (i - 1) (show (i - 1 + 1).toNat < (i + 1).toNat by omega) ⟨(by omega : -1 ≤ i - 1), (by omega : i - 1 < ns.length)⟩ ?_
          conv => whnf
          repeat' (first
            | exact trivial
            | exact rfl
            | exact Or.inl (And.intro rfl rfl)
            | exact pureL_ii _ _
            | exact pureL_nd _ _
            | refine le_bools ?_
            | refine Or.inr ?_
            | refine And.intro ?_ ?_
            | exact Nat.le_of_ble_eq_true rfl
            | exact int_eq (by rw [IntWalk.i64_in _ (by omega)] <;> omega))
          all_goals (first | (rw [hn]; done) | (rw [hn]; rfl) | skip)
        | true =>
          have hn0 := neI_t hge hi2 hb
          have hb1 : (neI ns i).getD (i.toNat * 1) false = true := by rw [Nat.mul_one]; exact hb
          by_cases o1 : (ns.getD i.toNat default).op = 0 ∨ (ns.getD i.toNat default).op = 1
          · have t2 : ¬ twoP3 (ns.getD i.toNat default).op := by unfold twoP3; omega
            have t1 : ¬ (6 ≤ (ns.getD i.toNat default).op ∧ (ns.getD i.toNat default).op ≤ 10) := by omega
            have hn : neI ns (i - 1) = neI ns i := by rw [hn0, pcN_0 o1]; rfl
            conv => whnf
            repeat' (first
              | (refine aIf_t ?_; conv => whnf)
              | (refine aIf_f ?_; conv => whnf)
              | (refine aGet_in rfl ?_; conv => whnf)
              | (refine And.intro (by omega) ?_; conv => whnf)
              | (refine And.intro (Nat.le_of_ble_eq_true rfl) ?_; conv => whnf)
              | (refine callG_t ?_; conv => whnf)
              | (refine part_nd (by omega) ?_; conv => whnf)
              | (refine getb_n (by omega) ?_; conv => whnf)
              | (refine setb_n ?_ (by omega); conv => whnf)
              | (refine l3Two_call trivial ?_; conv => whnf)
              | (refine l3One_call trivial ?_; conv => whnf)
              | (refine And.intro rfl (And.intro rfl (And.intro (by first | omega | (rw [List.length_map]; omega)) ?_)); conv => whnf)
              | (refine set_bool ?_ (by omega); conv => whnf)
              | (refine set_force ?_; conv => whnf)
              | (refine And.intro (by kernel_rfl) ?_; conv => whnf)
              | (refine aIf_tt (by assumption) ?_; conv => whnf)
              | refine aIf_eqt ?_
              | refine aIf_eqf ?_
              | (refine aIf_dec (fun _ => ?_) (fun _ => ?_) <;> conv => whnf)
              | (refine aIf_in (fun _ => ?_) (fun _ => ?_) <;> conv => whnf))
            all_goals (first | (exfalso; omega) | contradiction | skip)
            refine next_u (i - 1) (show (i - 1 + 1).toNat < (i + 1).toNat by omega) ⟨(by omega : -1 ≤ i - 1), (by omega : i - 1 < ns.length)⟩ ?_
            conv => whnf
            repeat' (first
              | exact trivial
              | exact rfl
              | exact Or.inl (And.intro rfl rfl)
              | exact pureL_ii _ _
              | exact pureL_nd _ _
              | refine le_bools ?_
              | refine Or.inr ?_
              | refine And.intro ?_ ?_
              | exact Nat.le_of_ble_eq_true rfl
              | exact int_eq (by rw [IntWalk.i64_in _ (by omega)] <;> omega))
            all_goals (first | (rw [hn]; done) | (rw [hn]; rfl) | skip)
          · have hl' : ((neI ns i).set (ns.getD i.toNat default).a.toNat true).length = ns.length := by rw [List.length_set]; exact hl
            have hb2 : ((neI ns i).set (ns.getD i.toNat default).a.toNat true).getD (i.toNat * 1) false = true := by
              rw [Nat.mul_one, getD_setG (by omega)]; split
              · rfl
              · exact hb
            have hb' : ((neI ns i).set (ns.getD i.toNat default).a.toNat true).getD i.toNat false = true := by
              rw [getD_setG (by omega)]; split
              · rfl
              · exact hb
            by_cases o2 : 6 ≤ (ns.getD i.toNat default).op ∧ (ns.getD i.toNat default).op ≤ 10
            · have t2 : ¬ twoP3 (ns.getD i.toNat default).op := by unfold twoP3; omega
              have hn : neI ns (i - 1) = (neI ns i).set (ns.getD i.toNat default).a.toNat true := by rw [hn0, pcN_1 o2]; rfl
              conv => whnf
              repeat' (first
                | (refine aIf_t ?_; conv => whnf)
                | (refine aIf_f ?_; conv => whnf)
                | (refine aGet_in rfl ?_; conv => whnf)
                | (refine And.intro (by omega) ?_; conv => whnf)
                | (refine And.intro (Nat.le_of_ble_eq_true rfl) ?_; conv => whnf)
                | (refine callG_t ?_; conv => whnf)
                | (refine part_nd (by omega) ?_; conv => whnf)
                | (refine getb_n (by omega) ?_; conv => whnf)
                | (refine setb_n ?_ (by omega); conv => whnf)
                | (refine l3Two_call trivial ?_; conv => whnf)
                | (refine l3One_call trivial ?_; conv => whnf)
                | (refine And.intro rfl (And.intro rfl (And.intro (by first | omega | (rw [List.length_map]; omega)) ?_)); conv => whnf)
                | (refine set_bool ?_ (by omega); conv => whnf)
                | (refine set_force ?_; conv => whnf)
                | (refine And.intro (by kernel_rfl) ?_; conv => whnf)
                | (refine aIf_tt (by assumption) ?_; conv => whnf)
                | refine aIf_eqt ?_
                | refine aIf_eqf ?_
                | (refine aIf_dec (fun _ => ?_) (fun _ => ?_) <;> conv => whnf))
              all_goals (first | (exfalso; omega) | contradiction | skip)
              refine next_u (i - 1) (show (i - 1 + 1).toNat < (i + 1).toNat by omega) ⟨(by omega : -1 ≤ i - 1), (by omega : i - 1 < ns.length)⟩ ?_
              conv => whnf
              repeat' (first
                | exact trivial
                | exact rfl
                | exact Or.inl (And.intro rfl rfl)
                | exact pureL_ii _ _
                | exact pureL_nd _ _
                | refine le_bools ?_
                | refine Or.inr ?_
                | refine And.intro ?_ ?_
                | exact Nat.le_of_ble_eq_true rfl
                | exact int_eq (by rw [IntWalk.i64_in _ (by omega)] <;> omega))
              all_goals (first | (rw [hn]; done) | (rw [hn]; rfl) | skip)
            · have t2 : twoP3 (ns.getD i.toNat default).op := by unfold twoP3; omega
              have hn : neI ns (i - 1) = ((neI ns i).set (ns.getD i.toNat default).a.toNat true).set (ns.getD i.toNat default).b.toNat true := by rw [hn0, pcN_2 o1 o2]; rfl
              conv => whnf
              repeat' (first
                | (refine aIf_t ?_; conv => whnf)
                | (refine aIf_f ?_; conv => whnf)
                | (refine aGet_in rfl ?_; conv => whnf)
                | (refine And.intro (by omega) ?_; conv => whnf)
                | (refine And.intro (Nat.le_of_ble_eq_true rfl) ?_; conv => whnf)
                | (refine callG_t ?_; conv => whnf)
                | (refine part_nd (by omega) ?_; conv => whnf)
                | (refine getb_n (by omega) ?_; conv => whnf)
                | (refine setb_n ?_ (by omega); conv => whnf)
                | (refine l3Two_call trivial ?_; conv => whnf)
                | (refine l3One_call trivial ?_; conv => whnf)
                | (refine And.intro rfl (And.intro rfl (And.intro (by first | omega | (rw [List.length_map]; omega)) ?_)); conv => whnf)
                | (refine set_bool ?_ (by omega); conv => whnf)
                | (refine set_force ?_; conv => whnf)
                | (refine And.intro (by kernel_rfl) ?_; conv => whnf)
                | (refine aIf_tt (by assumption) ?_; conv => whnf)
                | refine aIf_eqt ?_
                | refine aIf_eqf ?_
                | (refine aIf_dec (fun _ => ?_) (fun _ => ?_) <;> conv => whnf))
              all_goals (first | (exfalso; omega) | contradiction | skip)
              refine next_u (i - 1) (show (i - 1 + 1).toNat < (i + 1).toNat by omega) ⟨(by omega : -1 ≤ i - 1), (by omega : i - 1 < ns.length)⟩ ?_
              conv => whnf
              repeat' (first
                | exact trivial
                | exact rfl
                | exact Or.inl (And.intro rfl rfl)
                | exact pureL_ii _ _
                | exact pureL_nd _ _
                | refine le_bools ?_
                | refine Or.inr ?_
                | refine And.intro ?_ ?_
                | exact Nat.le_of_ble_eq_true rfl
                | exact int_eq (by rw [IntWalk.i64_in _ (by omega)] <;> omega))
              all_goals (first | (rw [hn]; done) | (rw [hn]; rfl) | skip)
      · have he : i = -1 := by omega
        subst he
        conv => whnf
        repeat' (first
          | (refine aIf_f ?_; conv => whnf))
        all_goals (first | (exfalso; omega) | contradiction | skip)
        exact retBM (if_pos hM) rfl (by rw [hl]; rfl)
theorem sNeededOf_call {c : Nat} {xss : List (List Int)} {ns : List Nd} {env : List AV} {rows : List Row} {ctr low : Nat} {k : AV → St → Prop} (hpre : eP ns)
    (h : k (.ref rows.length ctr 0 (neL xss ns).length) ⟨env, rows ++ [⟨ctr, 4, 1, (neL xss ns).map .bool⟩], ctr + 1, low⟩) :
    CallB Try.prog 37 ⟨env, rows, ctr, low⟩ [.agg [.sl c xss.length (xss.map (slI c)), .sl c ns.length (ns.flatMap (ndC c))]] k := callR_in sNeededOf_sound (c, xss, ns) hpre (protL_bools _) h
theorem iNeededOf_call {c : Nat} {xss : List (List Int)} {ns : List Nd} {env : List AV} {rows : List Row} {ctr low : Nat} {k : AV → St → Prop} (hpre : eP ns)
    (h : k (.ref rows.length ctr 0 (neL xss ns).length) ⟨env, rows ++ [⟨ctr, 4, 1, (neL xss ns).map .bool⟩], ctr + 1, low⟩) :
    CallB Try.prog 38 ⟨env, rows, ctr, low⟩ [.agg [.sl c xss.length (xss.map (slI c)), .sl c ns.length (ns.flatMap (ndC c))]] k := callR_in iNeededOf_sound (c, xss, ns) hpre (protL_bools _) h
end Go.Proofs.Ytilimbdpdpfalaa

/- Chapter 3: lists of lists that hold marks. -/
namespace Go.Proofs.Ytilimbdpdpfalaa
set_option maxRecDepth 20000
open Go.RowKit Go.Am
set_option linter.unusedSimpArgs false
attribute [local irreducible] aPlan aGet aIf aLoop aCall RetB NextB CallB CallG aCut aSet aAppend
theorem heldIntSS_sound : Sound Try.prog 26 (fnS (ι := Nat × List (List Int) × Int) (fun | (c, xss, m) => [.sl c xss.length ((marksII m xss).map (slI c)), .int .i64 m]) (fun | (_, xss, m) => xss.length ≤ 1048576 ∧ tot xss ≤ 1048576 ∧ 0 ≤ m ∧ m ≤ 100000000000) (fun | (_, xss, m) => .int .i64 (m + tot xss))) := by
  refine sound_of Try.func26 rfl (enters_of Try.func26 (by kernel_rfl) (by kernel_rfl)) ?_
  rintro ⟨c, xss, m⟩ hpre
  have hpre : xss.length ≤ 1048576 ∧ tot xss ≤ 1048576 ∧ 0 ≤ m ∧ m ≤ 100000000000 := hpre
  have hmax : maxLen = 9223372036854775807 := rfl
  have hML := marksII_length m xss
  conv => whnf
  repeat' (first
    | (refine aIf_t ?_; conv => whnf))
  refine loop_u (ι := Nat) [true, true, false, false, false, true, false, false, false, false, false, false, false, false, false, false, false, false, false, false, false] (fun k => [(1, .int .i64 (m + tot (xss.take k))), (5, .int .i64 k)]) (fun _ => []) (fun k => k ≤ xss.length) (fun k => xss.length - k) (0) (Nat.zero_le _) ?_ ?_
  · conv => whnf
    repeat' (first
      | exact trivial
      | exact rfl
      | exact pureL_ii _ _
      | refine And.intro ?_ ?_
      | exact Nat.le_of_ble_eq_true rfl
      | exact int_eq (Int.add_zero _).symm)
    all_goals exact int_eq (by simp [tot])
  · rintro k hk
    have hk : k ≤ xss.length := hk
    by_cases hlt : k < xss.length
    · have hg := marksII_getD m xss k hlt
      have hs := tot_succ hlt
      have hl := len_le_tot hlt
      have ht : tot (xss.take (k + 1)) ≤ tot xss := sum_take_le List.length xss (k + 1)
      have hgl : ((marksII m xss).getD k []).length = (xss.getD k []).length := by rw [hg, marks_length]
      conv => whnf
      repeat' (first
        | (refine fun (_ : _ ≤ maxLen) => ?_; conv => whnf)
        | (refine And.intro (by omega) ?_; conv => whnf)
        | (refine callG_t ?_; conv => whnf)
        | (refine get_ii_n (by omega) ?_; conv => whnf)
        | (refine And.intro (pureL_ints _ _) ?_; conv => whnf)
        | (refine aIf_dec (fun _ => ?_) (fun _ => ?_) <;> conv => whnf))
      all_goals (first | (exfalso; omega) | skip)
      refine held_call (m := m + tot (xss.take k)) (by omega) ?_
      rw [if_pos (by rw [hgl]; exact hg), hgl]
      conv => whnf
      repeat' (first
        | (refine aIf_dec (fun _ => ?_) (fun _ => ?_) <;> conv => whnf))
      all_goals (first | (exfalso; omega) | skip)
      refine next_u (k + 1) (show xss.length - (k + 1) < xss.length - k by omega) (by exact (by omega : k + 1 ≤ xss.length)) ?_
      conv => whnf
      repeat' (first
        | exact trivial
        | exact rfl
        | exact pureL_ii _ _
        | refine And.intro ?_ ?_
        | exact Nat.le_of_ble_eq_true rfl
        | exact int_eq (by omega)
        | exact int_eq (by rw [IntWalk.i64_in _ (by omega)] <;> omega))
      all_goals (first | exact int_eq (by omega) | skip)
    · have e := tot_all (show k = xss.length by omega)
      conv => whnf
      repeat' (first
        | (refine fun (_ : _ ≤ maxLen) => ?_; conv => whnf)
        | (refine And.intro (by omega) ?_; conv => whnf)
        | (refine callG_t ?_; conv => whnf)
        | (refine get_ii_n (by omega) ?_; conv => whnf)
        | (refine aIf_dec (fun _ => ?_) (fun _ => ?_) <;> conv => whnf))
      all_goals (first | (exfalso; omega) | skip)
      exact retS rfl (int_eq (by rw [e]))
theorem cut_marksII {f : Nat} {t : TypeId} {xss : List (List Int)} {m : Int} {n : Nat} {k : List AV → Prop} (hn : n = xss.length) (hk : k ((marksII m xss).map (slI 0))) : aCut (f + 2) ((marksII m xss).map (ownI t)) 0 (n * 1) k := cut_ii (by rw [hn, marksII_length]) hk
theorem heldIntSS_call {c n : Nat} {xss : List (List Int)} {m : Int} {env : List AV} {rows : List Row} {ctr low : Nat} {k : AV → St → Prop} (hn : n = xss.length) (hpre : xss.length ≤ 1048576 ∧ tot xss ≤ 1048576 ∧ 0 ≤ m ∧ m ≤ 100000000000) (h : k (.int .i64 (m + tot xss)) ⟨env, rows, ctr + 1, low⟩) :
    CallB Try.prog 26 ⟨env, rows, ctr, low⟩ [.sl c n ((marksII m xss).map (slI c)), .int .i64 m] k := by
  subst hn
  exact callS_in heldIntSS_sound (c, xss, m) hpre rfl h
end Go.Proofs.Ytilimbdpdpfalaa

/- Chapter 3: InputsOk of both sides. -/
namespace Go.Proofs.Ytilimbdpdpfalaa
set_option maxRecDepth 20000
open Go.RowKit Go.Am
set_option linter.unusedSimpArgs false
attribute [local irreducible] aPlan aGet aIf aLoop aCall RetB NextB CallB CallG aCut aSet aAppend
abbrev t0 : T2 := ([], [])
def inK (xss : List (List Int)) (ts : List T2) (j : Nat) : Prop := tensorOk (ts.getD j t0).1 (ts.getD j t0).2 = true ∧ (ts.getD j t0).1 = xss.getD j []
instance (xss : List (List Int)) (ts : List T2) (j : Nat) : Decidable (inK xss ts j) := by unfold inK; infer_instance
def inP (xss : List (List Int)) (ns : List Nd) (ts : List T2) : Prop := (shM xss ns).2 = true ∧ ts.length = xss.length ∧ ∀ j, j < ts.length → inK xss ts j
instance (xss : List (List Int)) (ns : List Nd) (ts : List T2) : Decidable (inP xss ns ts) := by unfold inP; infer_instance
theorem inP_f {xss : List (List Int)} {ns : List Nd} {ts : List T2} (h : ¬ inP xss ns ts) : AV.bool false = AV.bool (decide (inP xss ns ts)) := congrArg AV.bool (decide_eq_false h).symm
theorem inP_t {xss : List (List Int)} {ns : List Nd} {ts : List T2} (h : inP xss ns ts) : AV.bool true = AV.bool (decide (inP xss ns ts)) := congrArg AV.bool (decide_eq_true h).symm
def sInputsOk : CSpec := fnS (ι := Nat × List (List Int) × List Nd × Nat × List T2) (fun | (c, xss, ns, d, ts) => [.agg [.sl c xss.length (xss.map (slI c)), .sl c ns.length (ns.flatMap (ndC c))], .sl d ts.length (ts.flatMap (tnC d))]) (fun | (_, _, ns, _, _) => eP ns) (fun | (_, xss, ns, _, ts) => .bool (decide (inP xss ns ts)))
set_option maxHeartbeats 4000000 in
theorem iInputsOk_sound : Sound Try.prog 30 sInputsOk := by
  refine sound_of Try.func30 rfl (enters_of Try.func30 (by kernel_rfl) (by kernel_rfl)) ?_
  rintro ⟨c, xss, ns, d, ts⟩ hpre
  have hE : eP ns := hpre
  have hmax : maxLen = 9223372036854775807 := rfl
  cases hM : (shM xss ns).2 with
  | false =>
    conv => whnf
    repeat' (first
      | (refine plan_in (id := 6) [0, 1, 2, 3, 4, 5, 6, 7, 8, 9, 10, 11, 12, 13] (by kernel_rfl) (by kernel_rfl) ?_; conv => whnf)
      | (refine aIf_t ?_; conv => whnf)
      | (refine aIf_f ?_; conv => whnf)
      | (refine load_same ?_; conv => whnf)
      | (refine And.intro rfl (And.intro (List.cons_ne_nil _ _) ?_); conv => whnf)
      | (refine And.intro (Nat.le_of_ble_eq_true rfl) ?_; conv => whnf)
      | (refine callG_t ?_; conv => whnf)
      | (refine And.intro (pureL_ii _ _) ?_; conv => whnf)
      | (refine And.intro (pureL_nd _ _) ?_; conv => whnf)
      | (refine iExprOk_call (by first | omega | assumption | (refine ⟨?_, ?_⟩ <;> first | assumption | omega) | (refine ⟨?_, ?_, ?_⟩ <;> first | assumption | omega)) ?_; conv => whnf)
      | (refine takeN_in ?_; conv => whnf)
      | (refine And.intro (by kernel_rfl) ?_; conv => whnf)
      | (refine aIf_ff (by assumption) ?_; conv => whnf)
      | refine aIf_eqf ?_
      | refine aIf_not ?_)
    exact retS rfl (inP_f fun h => by have := h.1; rw [hM] at this; cases this)
  | true =>
    by_cases hl : ts.length = xss.length
    · conv => whnf
      repeat' (first
        | (refine plan_in (id := 6) [0, 1, 2, 3, 4, 5, 6, 7, 8, 9, 10, 11, 12, 13] (by kernel_rfl) (by kernel_rfl) ?_; conv => whnf)
        | (refine aIf_t ?_; conv => whnf)
        | (refine aIf_f ?_; conv => whnf)
        | (refine fun (_ : _ ≤ maxLen) => ?_; conv => whnf)
        | (refine aGet_in rfl ?_; conv => whnf)
        | (refine load_same ?_; conv => whnf)
        | (refine And.intro rfl (And.intro (List.cons_ne_nil _ _) ?_); conv => whnf)
        | (refine And.intro (Nat.le_of_ble_eq_true rfl) ?_; conv => whnf)
        | (refine callG_t ?_; conv => whnf)
        | (refine And.intro (pureL_ii _ _) ?_; conv => whnf)
        | (refine And.intro (pureL_nd _ _) ?_; conv => whnf)
        | (refine iExprOk_call (by first | omega | assumption | (refine ⟨?_, ?_⟩ <;> first | assumption | omega) | (refine ⟨?_, ?_, ?_⟩ <;> first | assumption | omega)) ?_; conv => whnf)
        | (refine takeN_in ?_; conv => whnf)
        | (refine And.intro (by kernel_rfl) ?_; conv => whnf)
        | (refine aIf_tt (by assumption) ?_; conv => whnf)
        | refine aIf_eqf ?_
        | refine aIf_not ?_
        | (refine aIf_dec (fun _ => ?_) (fun _ => ?_) <;> conv => whnf))
      all_goals (first | (exfalso; omega) | skip)
      refine loop_u (ι := Nat) [false, false, true, false, false, false, false, false, false, false, false, false, false, false, false, false, false, false, true, true, true, false, false, false, false, false, false, false, false, false, false, false, false, false, false, false, false, false, false, false] (fun k => [(20, .int .i64 k)]) (fun _ => []) (fun k => k ≤ ts.length ∧ ∀ j, j < k → inK xss ts j) (fun k => ts.length - k) (0) ⟨Nat.zero_le _, fun j hj => absurd hj (Nat.not_lt_zero _)⟩ ?_ ?_
      · conv => whnf
        repeat' (first
          | exact trivial
          | exact rfl
          | exact pureL_ii _ _
          | exact pureL_nd _ _
          | exact pureL_tn _ _
          | refine Or.inr ?_
          | refine And.intro ?_ ?_
          | exact Nat.le_of_ble_eq_true rfl)
      · rintro k ⟨hk, hall⟩
        have hk : k ≤ ts.length := hk
        have hall : ∀ j, j < k → inK xss ts j := hall
        by_cases hlt : k < ts.length
        · cases hT : tensorOk (ts.getD k t0).1 (ts.getD k t0).2 with
          | false =>
            conv => whnf
            repeat' (first
              | (refine plan_in (id := 6) [0, 1, 2, 3, 4, 5, 6, 7, 8, 9, 10, 11, 12, 13] (by kernel_rfl) (by kernel_rfl) ?_; conv => whnf)
              | (refine aIf_t ?_; conv => whnf)
              | (refine aIf_f ?_; conv => whnf)
              | (refine And.intro (by omega) ?_; conv => whnf)
              | (refine load_same ?_; conv => whnf)
              | (refine And.intro (Nat.le_of_ble_eq_true rfl) ?_; conv => whnf)
              | (refine iTensorOk_call ?_; conv => whnf)
              | (refine part_tn_n (by omega) ?_; conv => whnf)
              | (refine takeN_in ?_; conv => whnf)
              | (refine And.intro (pureL_ints _ _) ?_; conv => whnf)
              | (refine set_force ?_; conv => whnf)
              | (refine And.intro (by kernel_rfl) ?_; conv => whnf)
              | (refine aIf_ff (by assumption) ?_; conv => whnf)
              | refine aIf_eqf ?_
              | refine aIf_not ?_
              | (refine aIf_dec (fun _ => ?_) (fun _ => ?_) <;> conv => whnf))
            all_goals (first | (exfalso; omega) | contradiction | skip)
            exact retS rfl (inP_f fun h => by have := (h.2.2 k hlt).1; rw [hT] at this; cases this)
          | true =>
            by_cases hS : (ts.getD k t0).1 = xss.getD k []
            · conv => whnf
              repeat' (first
                | (refine plan_in (id := 6) [0, 1, 2, 3, 4, 5, 6, 7, 8, 9, 10, 11, 12, 13] (by kernel_rfl) (by kernel_rfl) ?_; conv => whnf)
                | (refine aIf_t ?_; conv => whnf)
                | (refine aIf_f ?_; conv => whnf)
                | (refine aGet_in rfl ?_; conv => whnf)
                | (refine And.intro (by omega) ?_; conv => whnf)
                | (refine load_same ?_; conv => whnf)
                | (refine And.intro (Nat.le_of_ble_eq_true rfl) ?_; conv => whnf)
                | (refine iTensorOk_call ?_; conv => whnf)
                | (refine get_ii_n (by omega) ?_; conv => whnf)
                | (refine part_tn_n (by omega) ?_; conv => whnf)
                | (refine takeN_in ?_; conv => whnf)
                | (refine And.intro (pureL_ints _ _) ?_; conv => whnf)
                | (refine sameNums_call ?_; conv => whnf)
                | (refine set_force ?_; conv => whnf)
                | (refine And.intro (by kernel_rfl) ?_; conv => whnf)
                | (refine aIf_tt (by assumption) ?_; conv => whnf)
                | refine aIf_eqf ?_
                | refine aIf_not ?_
                | (refine aIf_dec (fun _ => ?_) (fun _ => ?_) <;> conv => whnf))
              all_goals (first | (exfalso; omega) | contradiction | skip)
              refine next_u (k + 1) (show ts.length - (k + 1) < ts.length - k by omega) ⟨(by omega : k + 1 ≤ ts.length), fun j hj => ?_⟩ ?_
              · rcases Nat.lt_succ_iff_lt_or_eq.1 hj with h | rfl
                · exact hall j h
                · exact ⟨hT, hS⟩
              · conv => whnf
                repeat' (first
                  | exact trivial
                  | exact rfl
                  | exact pureL_ii _ _
                  | exact pureL_nd _ _
                  | exact pureL_tn _ _
                  | refine Or.inr ?_
                  | refine And.intro ?_ ?_
                  | exact Nat.le_of_ble_eq_true rfl
                  | exact int_eq (by rw [IntWalk.i64_in _ (by omega)] <;> omega))
            · conv => whnf
              repeat' (first
                | (refine plan_in (id := 6) [0, 1, 2, 3, 4, 5, 6, 7, 8, 9, 10, 11, 12, 13] (by kernel_rfl) (by kernel_rfl) ?_; conv => whnf)
                | (refine aIf_t ?_; conv => whnf)
                | (refine aIf_f ?_; conv => whnf)
                | (refine aGet_in rfl ?_; conv => whnf)
                | (refine And.intro (by omega) ?_; conv => whnf)
                | (refine load_same ?_; conv => whnf)
                | (refine And.intro (Nat.le_of_ble_eq_true rfl) ?_; conv => whnf)
                | (refine iTensorOk_call ?_; conv => whnf)
                | (refine get_ii_n (by omega) ?_; conv => whnf)
                | (refine part_tn_n (by omega) ?_; conv => whnf)
                | (refine takeN_in ?_; conv => whnf)
                | (refine And.intro (pureL_ints _ _) ?_; conv => whnf)
                | (refine sameNums_call ?_; conv => whnf)
                | (refine set_force ?_; conv => whnf)
                | (refine And.intro (by kernel_rfl) ?_; conv => whnf)
                | (refine aIf_tt (by assumption) ?_; conv => whnf)
                | refine aIf_eqf ?_
                | refine aIf_not ?_
                | (refine aIf_dec (fun _ => ?_) (fun _ => ?_) <;> conv => whnf))
              all_goals (first | (exfalso; omega) | contradiction | skip)
              exact retS rfl (inP_f fun h => hS (h.2.2 k hlt).2)
        · conv => whnf
          repeat' (first
            | (refine plan_in (id := 6) [0, 1, 2, 3, 4, 5, 6, 7, 8, 9, 10, 11, 12, 13] (by kernel_rfl) (by kernel_rfl) ?_; conv => whnf)
            | (refine aIf_t ?_; conv => whnf)
            | (refine aIf_f ?_; conv => whnf)
            | (refine aGet_in rfl ?_; conv => whnf)
            | (refine And.intro (by omega) ?_; conv => whnf)
            | (refine load_same ?_; conv => whnf)
            | (refine iTensorOk_call ?_; conv => whnf)
            | (refine get_ii_n (by omega) ?_; conv => whnf)
            | (refine part_tn_n (by omega) ?_; conv => whnf)
            | (refine takeN_in ?_; conv => whnf)
            | (refine sameNums_call ?_; conv => whnf)
            | (refine set_force ?_; conv => whnf)
            | refine aIf_eqf ?_
            | refine aIf_not ?_
            | (refine aIf_dec (fun _ => ?_) (fun _ => ?_) <;> conv => whnf)
            | (refine aIf_in (fun _ => ?_) (fun _ => ?_) <;> conv => whnf))
          all_goals (first | (exfalso; omega) | contradiction | skip)
          exact retS rfl (inP_t ⟨hM, hl, fun j hj => hall j (by omega)⟩)
    · conv => whnf
      repeat' (first
        | (refine plan_in (id := 6) [0, 1, 2, 3, 4, 5, 6, 7, 8, 9, 10, 11, 12, 13] (by kernel_rfl) (by kernel_rfl) ?_; conv => whnf)
        | (refine aIf_t ?_; conv => whnf)
        | (refine aIf_f ?_; conv => whnf)
        | (refine fun (_ : _ ≤ maxLen) => ?_; conv => whnf)
        | (refine aGet_in rfl ?_; conv => whnf)
        | (refine load_same ?_; conv => whnf)
        | (refine And.intro rfl (And.intro (List.cons_ne_nil _ _) ?_); conv => whnf)
        | (refine And.intro (Nat.le_of_ble_eq_true rfl) ?_; conv => whnf)
        | (refine callG_t ?_; conv => whnf)
        | (refine And.intro (pureL_ii _ _) ?_; conv => whnf)
        | (refine And.intro (pureL_nd _ _) ?_; conv => whnf)
        | (refine iExprOk_call (by first | omega | assumption | (refine ⟨?_, ?_⟩ <;> first | assumption | omega) | (refine ⟨?_, ?_, ?_⟩ <;> first | assumption | omega)) ?_; conv => whnf)
        | (refine takeN_in ?_; conv => whnf)
        | (refine And.intro (by kernel_rfl) ?_; conv => whnf)
        | (refine aIf_tt (by assumption) ?_; conv => whnf)
        | refine aIf_eqf ?_
        | refine aIf_not ?_
        | (refine aIf_dec (fun _ => ?_) (fun _ => ?_) <;> conv => whnf))
      all_goals (first | (exfalso; omega) | contradiction | exact retS rfl (inP_f fun h => hl h.2.1))
set_option maxHeartbeats 4000000 in
theorem sInputsOk_sound : Sound Try.prog 28 sInputsOk := by
  refine sound_of Try.func28 rfl (enters_of Try.func28 (by kernel_rfl) (by kernel_rfl)) ?_
  rintro ⟨c, xss, ns, d, ts⟩ hpre
  have hE : eP ns := hpre
  have hmax : maxLen = 9223372036854775807 := rfl
  cases hM : (shM xss ns).2 with
  | false =>
    conv => whnf
    repeat' (first
      | (refine plan_in (id := 6) [0, 1, 2, 3, 4, 5, 6, 7, 8, 9, 10, 11, 12, 13, 14, 15, 16, 17, 18, 19] (by kernel_rfl) (by kernel_rfl) ?_; conv => whnf)
      | (refine aIf_t ?_; conv => whnf)
      | (refine aIf_f ?_; conv => whnf)
      | (refine load_same ?_; conv => whnf)
      | (refine And.intro rfl (And.intro (List.cons_ne_nil _ _) ?_); conv => whnf)
      | (refine And.intro (Nat.le_of_ble_eq_true rfl) ?_; conv => whnf)
      | (refine callG_t ?_; conv => whnf)
      | (refine And.intro (pureL_ii _ _) ?_; conv => whnf)
      | (refine And.intro (pureL_nd _ _) ?_; conv => whnf)
      | (refine sExprOk_call (by first | omega | assumption | (refine ⟨?_, ?_⟩ <;> first | assumption | omega) | (refine ⟨?_, ?_, ?_⟩ <;> first | assumption | omega)) ?_; conv => whnf)
      | (refine takeN_in ?_; conv => whnf)
      | (refine And.intro (by kernel_rfl) ?_; conv => whnf)
      | (refine aIf_ff (by assumption) ?_; conv => whnf)
      | refine aIf_eqf ?_
      | refine aIf_not ?_)
    exact retS rfl (inP_f fun h => by have := h.1; rw [hM] at this; cases this)
  | true =>
    by_cases hl : ts.length = xss.length
    · conv => whnf
      repeat' (first
        | (refine plan_in (id := 6) [0, 1, 2, 3, 4, 5, 6, 7, 8, 9, 10, 11, 12, 13, 14, 15, 16, 17, 18, 19] (by kernel_rfl) (by kernel_rfl) ?_; conv => whnf)
        | (refine aIf_t ?_; conv => whnf)
        | (refine aIf_f ?_; conv => whnf)
        | (refine fun (_ : _ ≤ maxLen) => ?_; conv => whnf)
        | (refine aGet_in rfl ?_; conv => whnf)
        | (refine load_same ?_; conv => whnf)
        | (refine And.intro rfl (And.intro (List.cons_ne_nil _ _) ?_); conv => whnf)
        | (refine And.intro (Nat.le_of_ble_eq_true rfl) ?_; conv => whnf)
        | (refine callG_t ?_; conv => whnf)
        | (refine And.intro (pureL_ii _ _) ?_; conv => whnf)
        | (refine And.intro (pureL_nd _ _) ?_; conv => whnf)
        | (refine sExprOk_call (by first | omega | assumption | (refine ⟨?_, ?_⟩ <;> first | assumption | omega) | (refine ⟨?_, ?_, ?_⟩ <;> first | assumption | omega)) ?_; conv => whnf)
        | (refine takeN_in ?_; conv => whnf)
        | (refine And.intro (by kernel_rfl) ?_; conv => whnf)
        | (refine aIf_tt (by assumption) ?_; conv => whnf)
        | refine aIf_eqf ?_
        | refine aIf_not ?_
        | (refine aIf_dec (fun _ => ?_) (fun _ => ?_) <;> conv => whnf))
      all_goals (first | (exfalso; omega) | skip)
      refine loop_u (ι := Nat) [false, true, true, false, false, true, false, false, false, false, false, false, false, false, false, false, false, false, false, false, false, false, false, false, false, false, false, false, false, false, false, false, false, false, false, false, false, false, false, false, false, false, false] (fun k => [(5, .int .i64 k)]) (fun _ => []) (fun k => k ≤ ts.length ∧ ∀ j, j < k → inK xss ts j) (fun k => ts.length - k) (0) ⟨Nat.zero_le _, fun j hj => absurd hj (Nat.not_lt_zero _)⟩ ?_ ?_
      · conv => whnf
        repeat' (first
          | exact trivial
          | exact rfl
          | exact pureL_ii _ _
          | exact pureL_nd _ _
          | exact pureL_tn _ _
          | refine Or.inr ?_
          | refine And.intro ?_ ?_
          | exact Nat.le_of_ble_eq_true rfl)
      · rintro k ⟨hk, hall⟩
        have hk : k ≤ ts.length := hk
        have hall : ∀ j, j < k → inK xss ts j := hall
        by_cases hlt : k < ts.length
        · cases hT : tensorOk (ts.getD k t0).1 (ts.getD k t0).2 with
          | false =>
            conv => whnf
            repeat' (first
              | (refine plan_in (id := 6) [0, 1, 2, 3, 4, 5, 6, 7, 8, 9, 10, 11, 12, 13, 14, 15, 16, 17, 18, 19] (by kernel_rfl) (by kernel_rfl) ?_; conv => whnf)
              | (refine aIf_t ?_; conv => whnf)
              | (refine aIf_f ?_; conv => whnf)
              | (refine fun (_ : _ ≤ maxLen) => ?_; conv => whnf)
              | (refine And.intro (by omega) ?_; conv => whnf)
              | (refine sTensorOk_call ?_; conv => whnf)
              | (refine part_tn_n (by omega) ?_; conv => whnf)
              | (refine And.intro (pureL_ints _ _) ?_; conv => whnf)
              | (refine aIf_ff (by assumption) ?_; conv => whnf)
              | refine aIf_eqf ?_
              | refine aIf_not ?_
              | (refine aIf_dec (fun _ => ?_) (fun _ => ?_) <;> conv => whnf))
            all_goals (first | (exfalso; omega) | contradiction | skip)
            exact retS rfl (inP_f fun h => by have := (h.2.2 k hlt).1; rw [hT] at this; cases this)
          | true =>
            by_cases hS : (ts.getD k t0).1 = xss.getD k []
            · conv => whnf
              repeat' (first
                | (refine plan_in (id := 6) [0, 1, 2, 3, 4, 5, 6, 7, 8, 9, 10, 11, 12, 13, 14, 15, 16, 17, 18, 19] (by kernel_rfl) (by kernel_rfl) ?_; conv => whnf)
                | (refine aIf_t ?_; conv => whnf)
                | (refine aIf_f ?_; conv => whnf)
                | (refine fun (_ : _ ≤ maxLen) => ?_; conv => whnf)
                | (refine aGet_in rfl ?_; conv => whnf)
                | (refine And.intro (by omega) ?_; conv => whnf)
                | (refine sTensorOk_call ?_; conv => whnf)
                | (refine get_ii_n (by omega) ?_; conv => whnf)
                | (refine get_tn_n (by omega) rfl ?_; conv => whnf)
                | (refine part_tn_n (by omega) ?_; conv => whnf)
                | (refine And.intro (pureL_ints _ _) ?_; conv => whnf)
                | (refine l1Same_call ?_; conv => whnf)
                | (refine aIf_tt (by assumption) ?_; conv => whnf)
                | refine aIf_eqf ?_
                | refine aIf_not ?_
                | (refine aIf_dec (fun _ => ?_) (fun _ => ?_) <;> conv => whnf))
              all_goals (first | (exfalso; omega) | contradiction | skip)
              refine next_u (k + 1) (show ts.length - (k + 1) < ts.length - k by omega) ⟨(by omega : k + 1 ≤ ts.length), fun j hj => ?_⟩ ?_
              · rcases Nat.lt_succ_iff_lt_or_eq.1 hj with h | rfl
                · exact hall j h
                · exact ⟨hT, hS⟩
              · conv => whnf
                repeat' (first
                  | exact trivial
                  | exact rfl
                  | exact pureL_ii _ _
                  | exact pureL_nd _ _
                  | exact pureL_tn _ _
                  | refine Or.inr ?_
                  | refine And.intro ?_ ?_
                  | exact Nat.le_of_ble_eq_true rfl
                  | exact int_eq (by rw [IntWalk.i64_in _ (by omega)] <;> omega))
            · conv => whnf
              repeat' (first
                | (refine plan_in (id := 6) [0, 1, 2, 3, 4, 5, 6, 7, 8, 9, 10, 11, 12, 13, 14, 15, 16, 17, 18, 19] (by kernel_rfl) (by kernel_rfl) ?_; conv => whnf)
                | (refine aIf_t ?_; conv => whnf)
                | (refine aIf_f ?_; conv => whnf)
                | (refine fun (_ : _ ≤ maxLen) => ?_; conv => whnf)
                | (refine aGet_in rfl ?_; conv => whnf)
                | (refine And.intro (by omega) ?_; conv => whnf)
                | (refine sTensorOk_call ?_; conv => whnf)
                | (refine get_ii_n (by omega) ?_; conv => whnf)
                | (refine get_tn_n (by omega) rfl ?_; conv => whnf)
                | (refine part_tn_n (by omega) ?_; conv => whnf)
                | (refine And.intro (pureL_ints _ _) ?_; conv => whnf)
                | (refine l1Same_call ?_; conv => whnf)
                | (refine aIf_tt (by assumption) ?_; conv => whnf)
                | refine aIf_eqf ?_
                | refine aIf_not ?_
                | (refine aIf_dec (fun _ => ?_) (fun _ => ?_) <;> conv => whnf))
              all_goals (first | (exfalso; omega) | contradiction | skip)
              exact retS rfl (inP_f fun h => hS (h.2.2 k hlt).2)
        · conv => whnf
          repeat' (first
            | (refine plan_in (id := 6) [0, 1, 2, 3, 4, 5, 6, 7, 8, 9, 10, 11, 12, 13, 14, 15, 16, 17, 18, 19] (by kernel_rfl) (by kernel_rfl) ?_; conv => whnf)
            | (refine aIf_t ?_; conv => whnf)
            | (refine aIf_f ?_; conv => whnf)
            | (refine fun (_ : _ ≤ maxLen) => ?_; conv => whnf)
            | (refine aGet_in rfl ?_; conv => whnf)
            | (refine And.intro (by omega) ?_; conv => whnf)
            | (refine sTensorOk_call ?_; conv => whnf)
            | (refine get_ii_n (by omega) ?_; conv => whnf)
            | (refine get_tn_n (by omega) rfl ?_; conv => whnf)
            | (refine part_tn_n (by omega) ?_; conv => whnf)
            | (refine l1Same_call ?_; conv => whnf)
            | refine aIf_eqf ?_
            | refine aIf_not ?_
            | (refine aIf_dec (fun _ => ?_) (fun _ => ?_) <;> conv => whnf)
            | (refine aIf_in (fun _ => ?_) (fun _ => ?_) <;> conv => whnf))
          all_goals (first | (exfalso; omega) | contradiction | skip)
          exact retS rfl (inP_t ⟨hM, hl, fun j hj => hall j (by omega)⟩)
    · conv => whnf
      repeat' (first
        | (refine plan_in (id := 6) [0, 1, 2, 3, 4, 5, 6, 7, 8, 9, 10, 11, 12, 13, 14, 15, 16, 17, 18, 19] (by kernel_rfl) (by kernel_rfl) ?_; conv => whnf)
        | (refine aIf_t ?_; conv => whnf)
        | (refine aIf_f ?_; conv => whnf)
        | (refine fun (_ : _ ≤ maxLen) => ?_; conv => whnf)
        | (refine aGet_in rfl ?_; conv => whnf)
        | (refine load_same ?_; conv => whnf)
        | (refine And.intro rfl (And.intro (List.cons_ne_nil _ _) ?_); conv => whnf)
        | (refine And.intro (Nat.le_of_ble_eq_true rfl) ?_; conv => whnf)
        | (refine callG_t ?_; conv => whnf)
        | (refine And.intro (pureL_ii _ _) ?_; conv => whnf)
        | (refine And.intro (pureL_nd _ _) ?_; conv => whnf)
        | (refine sExprOk_call (by first | omega | assumption | (refine ⟨?_, ?_⟩ <;> first | assumption | omega) | (refine ⟨?_, ?_, ?_⟩ <;> first | assumption | omega)) ?_; conv => whnf)
        | (refine takeN_in ?_; conv => whnf)
        | (refine And.intro (by kernel_rfl) ?_; conv => whnf)
        | (refine aIf_tt (by assumption) ?_; conv => whnf)
        | refine aIf_eqf ?_
        | refine aIf_not ?_
        | (refine aIf_dec (fun _ => ?_) (fun _ => ?_) <;> conv => whnf))
      all_goals (first | (exfalso; omega) | contradiction | exact retS rfl (inP_f fun h => hl h.2.1))
theorem sInputsOk_call {c d : Nat} {xss : List (List Int)} {ns : List Nd} {ts : List T2} {env : List AV} {rows : List Row} {ctr low : Nat} {k : AV → St → Prop} (hpre : eP ns) (h : k (.bool (decide (inP xss ns ts))) ⟨env, rows, ctr + 1, low⟩) :
    CallB Try.prog 28 ⟨env, rows, ctr, low⟩ [.agg [.sl c xss.length (xss.map (slI c)), .sl c ns.length (ns.flatMap (ndC c))], .sl d ts.length (ts.flatMap (tnC d))] k := callS_in sInputsOk_sound (c, xss, ns, d, ts) hpre rfl h
theorem iInputsOk_call {c d : Nat} {xss : List (List Int)} {ns : List Nd} {ts : List T2} {env : List AV} {rows : List Row} {ctr low : Nat} {k : AV → St → Prop} (hpre : eP ns) (h : k (.bool (decide (inP xss ns ts))) ⟨env, rows, ctr + 1, low⟩) :
    CallB Try.prog 30 ⟨env, rows, ctr, low⟩ [.agg [.sl c xss.length (xss.map (slI c)), .sl c ns.length (ns.flatMap (ndC c))], .sl d ts.length (ts.flatMap (tnC d))] k := callS_in iInputsOk_sound (c, xss, ns, d, ts) hpre rfl h
theorem uTes : Try.prog.underlying 39 = some (.slice 99) := by kernel_rfl
theorem cell_te2 : Try.prog.cellsOf 99 = 2 := by kernel_rfl
theorem tensFs : fieldsAre Try.prog 99 [(46, 0), (46, 1)] = true := by kernel_rfl
theorem cells_tn (us : List AV) (h : CellsOk Try.prog 99 us) : ∃ n : T2, us = tnC 1 n ∧ True := by
  obtain ⟨hl, hf⟩ := fields_ok tensFs h
  rw [cell_te2] at hl
  match us, hl with
  | [a, b], _ =>
    have h0 := hf (46, 0) (by simp)
    have h1 := hf (46, 1) (by simp)
    simp only [cell_ints1] at h0 h1
    obtain ⟨xs, e0, -⟩ := cellsInts uInts uInt h0
    obtain ⟨zs, e1, -⟩ := cellsInts uInts uInt h1
    simp at e0 e1
    exact ⟨(xs, zs), by rw [e0, e1]; rfl, trivial⟩
theorem argTs {av : AV} (h : ArgR Try.prog 39 av) : ∃ ts : List T2, av = .sl 1 ts.length (ts.flatMap (tnC 1)) := by
  unfold ArgR at h
  rw [uTes] at h
  obtain ⟨ts, e, -⟩ := cells_slice uTes h cells_tn
  exact ⟨ts, by simpa using e⟩
end Go.Proofs.Ytilimbdpdpfalaa
