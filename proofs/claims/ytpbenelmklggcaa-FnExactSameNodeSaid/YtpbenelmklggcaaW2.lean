import Derived.Test.YtpbenelmklggcaaW1
import Derived.Test.YtpbenelmklggcaaM012x22
import Derived.Test.YtpbenelmklggcaaF0
/- For every argument, the program's SameNode answers as the model's SameNode; it writes into nothing. No condition. -/
namespace Go.Proofs.Ytpbenelmklggcaa
set_option maxRecDepth 20000
open Go.RowKit Go.Am Go.WideShapes Go.ChangeShapes
attribute [local irreducible] aPlan aGet aIf aLoop aCall RetB NextB CallB CallG aCut aSet aAppend

set_option maxHeartbeats 8000000 in
theorem law_FnExactSameNode : Sound Try.prog 5 (fnS (ι := Nat × List (List Int) × List Nd × Int) (fun | (c, xss, ns, i0) => [.agg [.sl c xss.length (xss.map (slI c)), .sl c ns.length (ns.flatMap (ndC c))], .int .i64 i0]) (fun | (_, _, ns, _) => ∀ n ∈ ns, wfL n.l) (fun _ => .bool true)) := by
  refine sound_of Try.func5 rfl (enters_of Try.func5 (by kernel_rfl) (by kernel_rfl)) ?_
  rintro ⟨c, xss, ns, i0⟩ hpre
  have hw : ∀ n ∈ ns, wfL n.l := hpre
  by_cases hs : eSize xss ns ≤ 1048576
  · have hE := eP_of hs hw
    have hs' : xss.length + tot xss + (ns.length + ntot ns) ≤ 1048576 := hs
    conv => whnf
    repeat' (first
      | (refine plan_in (id := 10) [0, 1, 2, 3, 4] (by kernel_rfl) (by kernel_rfl) ?_; conv => whnf)
      | (refine load_same ?_; conv => whnf)
      | (refine And.intro rfl (And.intro (List.cons_ne_nil _ _) ?_); conv => whnf)
      | (refine And.intro (Nat.le_of_ble_eq_true rfl) ?_; conv => whnf)
      | (refine callG_t ?_; conv => whnf)
      | (refine append_same ?_; conv => whnf)
      | (refine And.intro (pureL_ii _ _) ?_; conv => whnf)
      | (refine And.intro (pureL_nd _ _) ?_; conv => whnf)
      | (refine cut_ii rfl ?_; conv => whnf)
      | (refine cut_nd rfl ?_; conv => whnf)
      | (refine toExpr_call (by omega) ?_; conv => whnf)
      | (refine eqExpr_call trivial ?_; conv => whnf)
      | (refine szExpr_call (by omega) (fun _ _ => ?_); conv => whnf)
      | (refine iSameNode_call (by first | omega | assumption | (refine ⟨?_, ?_⟩ <;> first | assumption | omega) | (refine ⟨?_, ?_, ?_⟩ <;> first | assumption | omega)) ?_; conv => whnf)
      | (refine sSameNode_call (by first | omega | assumption | (refine ⟨?_, ?_⟩ <;> first | assumption | omega) | (refine ⟨?_, ?_, ?_⟩ <;> first | assumption | omega)) ?_; conv => whnf)
      | (refine takeN_in ?_; conv => whnf)
      | (refine set_force ?_; conv => whnf)
      | (refine And.intro (by kernel_rfl) ?_; conv => whnf)
      | refine aIf_not ?_
      | (refine aIf_decself ?_; conv => whnf)
      | (refine aIf_dec (fun _ => ?_) (fun _ => ?_) <;> conv => whnf))
    all_goals (first | exact retS rfl rfl | (exfalso; omega))
  · conv => whnf
    repeat' (first
      | (refine plan_in (id := 10) [0, 1, 2, 3, 4] (by kernel_rfl) (by kernel_rfl) ?_; conv => whnf)
      | (refine And.intro (by omega) ?_; conv => whnf)
      | (refine load_same ?_; conv => whnf)
      | (refine And.intro rfl (And.intro (List.cons_ne_nil _ _) ?_); conv => whnf)
      | (refine And.intro (Nat.le_of_ble_eq_true rfl) ?_; conv => whnf)
      | (refine callG_t ?_; conv => whnf)
      | (refine append_same ?_; conv => whnf)
      | (refine And.intro (pureL_ii _ _) ?_; conv => whnf)
      | (refine And.intro (pureL_nd _ _) ?_; conv => whnf)
      | (refine cut_ii rfl ?_; conv => whnf)
      | (refine cut_nd rfl ?_; conv => whnf)
      | (refine toExpr_call (by omega) ?_; conv => whnf)
      | (refine eqExpr_call trivial ?_; conv => whnf)
      | (refine szExpr_call (by omega) (fun _ _ => ?_); conv => whnf)
      | (refine iSameNode_call (by first | omega | assumption | (refine ⟨?_, ?_⟩ <;> first | assumption | omega) | (refine ⟨?_, ?_, ?_⟩ <;> first | assumption | omega)) ?_; conv => whnf)
      | (refine sSameNode_call (by first | omega | assumption | (refine ⟨?_, ?_⟩ <;> first | assumption | omega) | (refine ⟨?_, ?_, ?_⟩ <;> first | assumption | omega)) ?_; conv => whnf)
      | (refine takeN_in ?_; conv => whnf)
      | (refine set_force ?_; conv => whnf)
      | (refine And.intro (by kernel_rfl) ?_; conv => whnf)
      | refine aIf_not ?_
      | (refine aIf_decself ?_; conv => whnf)
      | (refine aIf_dec (fun _ => ?_) (fun _ => ?_) <;> conv => whnf))
    all_goals (first | exact retS rfl rfl | (exfalso; omega))

set_option maxRecDepth 100000 in
theorem FnExactSameNode_lifted (os : Os) (started : os.Started) (H : Type) (enc : TypeId × Value → H) :
    ReturnsInHanded {} Try.checked os 5 .any (Rows.fnExactSameNodeSpec.pre6 enc Try.prog Try.f5 Rows.fnExactSameNodeRow.domain false) (Rows.fnExactSameNodeSpec.post enc Try.prog Try.f5 false true false false) := by
  refine returnsInHanded_of_change (C := Try.checked) own_ started (by kernel_rfl) Try.func5
    (ChangeSpec.witness6 (enc := enc) (C := Try.checked) false ⟨#[], #[.agg #[.slice none 0 0, .slice none 0 0], .int .i64 0], []⟩ 8 (by kernel_rfl) (by kernel_rfl) (by kernel_rfl) (by kernel_rfl)) ?_
  intro W base args ds gs before hval hW _ _
  refine law_postR (n := 6) law_FnExactSameNode laid_ (by kernel_rfl) (by kernel_rfl) (tb := 4) (by kernel_rfl) (by kernel_rfl) rfl ?_ ?_ hval hW
  · intro ds hl
    (match ds, hl with | [d0, d1], _ => exact ⟨rfl, rfl, rfl⟩)
  · intro avs hl h
    have hl' : avs.length = 2 := hl
    obtain ⟨a0, a1, rfl, ha0, ha1⟩ := avs2 hl' (p := fun j av => ∀ t, Try.f5.params.toList[j]? = some t → ArgR Try.prog t av) (fun j av hj t ht => h j t av ht hj); obtain ⟨xss, ns, rfl, hw⟩ := argE (ha0 _ rfl); obtain ⟨i0, rfl, _⟩ := argI (ha1 _ rfl); exact ⟨(1, xss, ns, i0), rfl, rfl, hw, fun r ic news hp => hp.1⟩
theorem FnExactSameNode_holds : Rows.FnExactSameNodeSaid :=
  OpenClaim.holds_of_wide 5 Try.f5 rfl rfl rfl rfl rfl rfl rfl ⟨rfl, rfl, rfl, rfl, rfl⟩ rfl rfl rfl rfl rfl (by kernel_rfl) Try.func5
    (show joinedFacts Try.prog 5 Try.f5 Rows.fnExactSameNodeSpec Rows.fnExactSameNodeRow = true by unfold joinedFacts; rw [whole_may, whole_lifts, whole_make]; kernel_rfl)
    (of_decide_eq_true (by kernel_rfl)) (by unfold Func.isWrapper; rw [if_neg (of_decide_eq_false (by kernel_rfl))]; exact ⟨rfl, rfl⟩)
    (fun os started H enc _ => FnExactSameNode_lifted os started H enc)
end Go.Proofs.Ytpbenelmklggcaa
