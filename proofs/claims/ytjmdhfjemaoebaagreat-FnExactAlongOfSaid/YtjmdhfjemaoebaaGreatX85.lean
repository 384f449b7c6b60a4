/- For every argument, the program's AlongOf answers as the model's AlongOf, in memory of its own; it writes into nothing. No condition. -/
import Derived.Test.YtjmdhfjemaoebaaGreatX844
import Derived.Test.YtjmdhfjemaoebaaGreatX83
import Derived.Test.YtjmdhfjemaoebaaGreatM01x32
import Derived.Test.YtjmdhfjemaoebaaGreatF0
namespace Go.Proofs.YtjmdhfjemaoebaaGreat
set_option maxRecDepth 20000
open Go.RowKit Go.Am Go.WideShapes Go.ChangeShapes
attribute [local irreducible] aPlan aGet aIf aLoop aCall RetB NextB CallB CallG aCut aSet aAppend

set_option maxHeartbeats 8000000 in
theorem law_FnExactAlongOf : Sound Tryz.prog 4 (fnS (ι := Nat × List (List Int) × List Nd × Nat × List T2 × Nat × List T2) (fun | (c, xss, ns, d, ts, e, us) => [.agg [.sl c xss.length (xss.map (slI c)), .sl c ns.length (ns.flatMap (ndC c))], .sl d ts.length (ts.flatMap (tnC d)), .sl e us.length (us.flatMap (tnC e))]) (fun | (_, _, ns, _, _, _, _) => ∀ n ∈ ns, wfL n.l) (fun _ => .bool true)) := by
  refine sound_of Tryz.func4 rfl (enters_of Tryz.func4 (by kernel_rfl) (by kernel_rfl)) ?_
  rintro ⟨c, xss, ns, d, ts, e, us⟩ hpre
  have hw : ∀ n ∈ ns, wfL n.l := hpre
  have hsz := alM_len xss ns ts us
  by_cases hs : eSize xss ns ≤ 1048576
  · have hE := eP_of hs hw
    have hs' : xss.length + tot xss + (ns.length + ntot ns) ≤ 1048576 := hs
    by_cases ht : ts.length + ttot ts + (us.length + ttot us) ≤ 1048576
    · conv => whnf
      repeat' (first
        | (refine plan_in (id := 18) [0, 1, 2, 3, 4] (by kernel_rfl) (by kernel_rfl) ?_; conv => whnf)
        | (refine aIf_t ?_; conv => whnf)
        | (refine aIf_f ?_; conv => whnf)
        | (refine aGet_in rfl ?_; conv => whnf)
        | (refine load_same ?_; conv => whnf)
        | (refine And.intro rfl (And.intro (List.cons_ne_nil _ _) ?_); conv => whnf)
        | (refine And.intro (Nat.le_of_ble_eq_true rfl) ?_; conv => whnf)
        | (refine markTensor_call rfl rfl (by decide) rfl rfl (by omega) ?_; conv => whnf)
        | (refine markExpr_call rfl rfl (by decide) rfl rfl (by omega) (fun _ => ?_); conv => whnf)
        | (refine markTs_call rfl rfl (by omega) ?_; conv => whnf)
        | (refine callG_t ?_; conv => whnf)
        | (refine eqTensor_call ?_; conv => whnf)
        | (refine heldTensor_call (by omega) (by omega) (by omega) ?_; conv => whnf)
        | (refine append_same ?_; conv => whnf)
        | (refine And.intro (pureL_ii _ _) ?_; conv => whnf)
        | (refine And.intro (pureL_nd _ _) ?_; conv => whnf)
        | (refine And.intro (pureL_tn _ _) ?_; conv => whnf)
        | (refine cut_ii rfl ?_; conv => whnf)
        | (refine cut_nd rfl ?_; conv => whnf)
        | (refine cut_tn rfl ?_; conv => whnf)
        | (refine iAlongOf_call (by assumption) ?_; conv => whnf)
        | (refine sAlongOf_call (by assumption) ?_; conv => whnf)
        | (refine toTensorS_call (by constructor <;> omega) ?_; conv => whnf)
        | (refine toExpr_call (by omega) ?_; conv => whnf)
        | (refine eqTensorS_call trivial ?_; conv => whnf)
        | (refine eqExpr_call trivial ?_; conv => whnf)
        | (refine szTensorS_call (by omega) (fun _ _ => ?_); conv => whnf)
        | (refine szExpr_call (by omega) (fun _ _ => ?_); conv => whnf)
        | (refine takeN_in ?_; conv => whnf)
        | (refine cut_ints ?_; conv => whnf)
        | (refine cut_marks ?_; conv => whnf)
        | (refine set_force ?_; conv => whnf)
        | (refine And.intro (by kernel_rfl) ?_; conv => whnf)
        | refine aIf_eqf ?_
        | refine aIf_not ?_
        | (refine aIf_beself ?_; conv => whnf)
        | (refine aIf_decself ?_; conv => whnf)
        | (refine aIf_dec (fun _ => ?_) (fun _ => ?_) <;> conv => whnf))
      all_goals (first | exact retS rfl rfl | (exfalso; omega))
    · conv => whnf
      repeat' (first
        | (refine plan_in (id := 18) [0, 1, 2, 3, 4] (by kernel_rfl) (by kernel_rfl) ?_; conv => whnf)
        | (refine aIf_t ?_; conv => whnf)
        | (refine aIf_f ?_; conv => whnf)
        | (refine aGet_in rfl ?_; conv => whnf)
        | (refine And.intro (by omega) ?_; conv => whnf)
        | (refine load_same ?_; conv => whnf)
        | (refine And.intro rfl (And.intro (List.cons_ne_nil _ _) ?_); conv => whnf)
        | (refine And.intro (Nat.le_of_ble_eq_true rfl) ?_; conv => whnf)
        | (refine markTensor_call rfl rfl (by decide) rfl rfl (by omega) ?_; conv => whnf)
        | (refine markExpr_call rfl rfl (by decide) rfl rfl (by omega) (fun _ => ?_); conv => whnf)
        | (refine markTs_call rfl rfl (by omega) ?_; conv => whnf)
        | (refine callG_t ?_; conv => whnf)
        | (refine eqTensor_call ?_; conv => whnf)
        | (refine heldTensor_call (by omega) (by omega) (by omega) ?_; conv => whnf)
        | (refine append_same ?_; conv => whnf)
        | (refine And.intro (pureL_ii _ _) ?_; conv => whnf)
        | (refine And.intro (pureL_nd _ _) ?_; conv => whnf)
        | (refine And.intro (pureL_tn _ _) ?_; conv => whnf)
        | (refine cut_ii rfl ?_; conv => whnf)
        | (refine cut_nd rfl ?_; conv => whnf)
        | (refine cut_tn rfl ?_; conv => whnf)
        | (refine iAlongOf_call (by assumption) ?_; conv => whnf)
        | (refine sAlongOf_call (by assumption) ?_; conv => whnf)
        | (refine toTensorS_call (by constructor <;> omega) ?_; conv => whnf)
        | (refine toExpr_call (by omega) ?_; conv => whnf)
        | (refine eqTensorS_call trivial ?_; conv => whnf)
        | (refine eqExpr_call trivial ?_; conv => whnf)
        | (refine szTensorS_call (by omega) (fun _ _ => ?_); conv => whnf)
        | (refine szExpr_call (by omega) (fun _ _ => ?_); conv => whnf)
        | (refine takeN_in ?_; conv => whnf)
        | (refine cut_ints ?_; conv => whnf)
        | (refine cut_marks ?_; conv => whnf)
        | (refine set_force ?_; conv => whnf)
        | (refine And.intro (by kernel_rfl) ?_; conv => whnf)
        | refine aIf_eqf ?_
        | refine aIf_not ?_
        | (refine aIf_beself ?_; conv => whnf)
        | (refine aIf_decself ?_; conv => whnf)
        | (refine aIf_dec (fun _ => ?_) (fun _ => ?_) <;> conv => whnf))
      all_goals (first | exact retS rfl rfl | (exfalso; omega))
  · conv => whnf
    repeat' (first
      | (refine plan_in (id := 18) [0, 1, 2, 3, 4] (by kernel_rfl) (by kernel_rfl) ?_; conv => whnf)
      | (refine And.intro (by omega) ?_; conv => whnf)
      | (refine load_same ?_; conv => whnf)
      | (refine And.intro rfl (And.intro (List.cons_ne_nil _ _) ?_); conv => whnf)
      | (refine And.intro (Nat.le_of_ble_eq_true rfl) ?_; conv => whnf)
      | (refine callG_t ?_; conv => whnf)
      | (refine append_same ?_; conv => whnf)
      | (refine And.intro (pureL_ii _ _) ?_; conv => whnf)
      | (refine And.intro (pureL_nd _ _) ?_; conv => whnf)
      | (refine cut_ii rfl ?_; conv => whnf)
      | (refine cut_nd rfl ?_; conv => whnf)
      | (refine cut_tn rfl ?_; conv => whnf)
      | (refine toTensorS_call (by constructor <;> omega) ?_; conv => whnf)
      | (refine toExpr_call (by omega) ?_; conv => whnf)
      | (refine szTensorS_call (by omega) (fun _ _ => ?_); conv => whnf)
      | (refine szExpr_call (by omega) (fun _ _ => ?_); conv => whnf)
      | (refine takeN_in ?_; conv => whnf)
      | (refine And.intro (by kernel_rfl) ?_; conv => whnf)
      | (refine aIf_dec (fun _ => ?_) (fun _ => ?_) <;> conv => whnf))
    all_goals (first | exact retS rfl rfl | (exfalso; omega))

set_option maxRecDepth 100000 in
theorem FnExactAlongOf_lifted (os : Os) (started : os.Started) (H : Type) (enc : TypeId × Value → H) :
    ReturnsInHanded {} Tryz.checked os 4 .any (Rows.fnExactAlongOfSpec.pre6 enc Tryz.prog Tryz.f4 Rows.fnExactAlongOfRow.domain false) (Rows.fnExactAlongOfSpec.post enc Tryz.prog Tryz.f4 false true false false) := by
  refine returnsInHanded_of_change (C := Tryz.checked) own_ started (by kernel_rfl) Tryz.func4
    (ChangeSpec.witness6 (enc := enc) (C := Tryz.checked) false ⟨#[], #[.agg #[.slice none 0 0, .slice none 0 0], .slice none 0 0, .slice none 0 0], []⟩ 8 (by kernel_rfl) (by kernel_rfl) (by kernel_rfl) (by kernel_rfl)) ?_
  intro W base args ds gs before hval hW _ _
  refine law_postR (n := 6) law_FnExactAlongOf laid_ (by kernel_rfl) (by kernel_rfl) (tb := 4) (by kernel_rfl) (by kernel_rfl) rfl ?_ ?_ hval hW
  · intro ds hl
    (match ds, hl with | [d0, d1, d2], _ => exact ⟨rfl, rfl, rfl⟩)
  · intro avs hl h
    have hl' : avs.length = 3 := hl
    obtain ⟨a0, a1, a2, rfl, ha0, ha1, ha2⟩ := avs3 hl' (p := fun j av => ∀ t, Tryz.f4.params.toList[j]? = some t → ArgR Tryz.prog t av) (fun j av hj t ht => h j t av ht hj); obtain ⟨xss, ns, rfl, hw⟩ := argE (ha0 _ rfl); obtain ⟨ts, rfl⟩ := argTs (ha1 _ rfl); obtain ⟨us, rfl⟩ := argTs (ha2 _ rfl); exact ⟨(1, xss, ns, 1, ts, 1, us), rfl, rfl, hw, fun r ic news hp => hp.1⟩
theorem FnExactAlongOf_holds : Rows.FnExactAlongOfSaid :=
  OpenClaim.holds_of_wide 4 Tryz.f4 rfl rfl rfl rfl rfl rfl rfl ⟨rfl, rfl, rfl, rfl, rfl⟩ rfl rfl rfl rfl rfl (by kernel_rfl) Tryz.func4
    (show joinedFacts Tryz.prog 4 Tryz.f4 Rows.fnExactAlongOfSpec Rows.fnExactAlongOfRow = true by unfold joinedFacts; rw [whole_may, whole_lifts, whole_make]; kernel_rfl)
    (of_decide_eq_true (by kernel_rfl)) (by unfold Func.isWrapper; rw [if_neg (of_decide_eq_false (by kernel_rfl))]; exact ⟨rfl, rfl⟩)
    (fun os started H enc _ => FnExactAlongOf_lifted os started H enc)
end Go.Proofs.YtjmdhfjemaoebaaGreat
