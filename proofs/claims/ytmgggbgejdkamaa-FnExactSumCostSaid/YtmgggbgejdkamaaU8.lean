import Derived.Test.YtmgggbgejdkamaaM0x15
import Derived.Test.YtmgggbgejdkamaaM0x18
import Derived.Test.YtmgggbgejdkamaaF0
/- For every argument, the program's SumCost answers as the model's SumCost; it writes into nothing. No condition. -/
namespace Go.Proofs.Ytmgggbgejdkamaa
set_option maxRecDepth 20000
open Go.RowKit Go.Am Go.WideShapes Go.ChangeShapes
attribute [local irreducible] aPlan aGet aIf aLoop aCall RetB NextB CallB CallG aCut aSet aAppend

set_option maxHeartbeats 8000000 in
theorem law_FnExactSumCost : Sound Try.prog 11 (fnS (ι := IS) (fun | (c, zs, d, fs, e, o) => [.agg [.sl c zs.length (zs.map (.int .i64)), .sl d fs.length (fs.map (slI d)), .sl e o.length (o.map (.int .i64))]]) (fun _ => True) (fun _ => .bool true)) := by
  refine sound_of Try.func11 rfl (enters_of Try.func11 (by kernel_rfl) (by kernel_rfl)) ?_
  rintro ⟨c, zs, d, fs, e, o⟩ -
  by_cases hs : isSize zs fs o ≤ 1048576
  · conv => whnf
    repeat' (first
      | (refine plan_in (id := 10) [0, 1, 2, 3, 4] (by kernel_rfl) (by kernel_rfl) ?_; conv => whnf)
      | (refine load_same ?_; conv => whnf)
      | (refine And.intro rfl (And.intro (List.cons_ne_nil _ _) ?_); conv => whnf)
      | (refine And.intro (Nat.le_of_ble_eq_true rfl) ?_; conv => whnf)
      | (refine callG_t ?_; conv => whnf)
      | (refine append_same ?_; conv => whnf)
      | (refine And.intro (pureL_ii _ _) ?_; conv => whnf)
      | (refine cut_ii rfl ?_; conv => whnf)
      | (refine sSumCost_call trivial ?_; conv => whnf)
      | (refine iSumCost_call trivial ?_; conv => whnf)
      | (refine szIndexSum_call (by omega) (fun _ _ => ?_); conv => whnf)
      | (refine toIndexSum_call (by omega) ?_; conv => whnf)
      | (refine eqIndexSum_call ?_; conv => whnf)
      | (refine takeN_in ?_; conv => whnf)
      | (refine And.intro (pureL_ints _ _) ?_; conv => whnf)
      | (refine cut_ints ?_; conv => whnf)
      | (refine set_force ?_; conv => whnf)
      | (refine And.intro (by kernel_rfl) ?_; conv => whnf)
      | refine aIf_not ?_
      | (refine aIf_decself ?_; conv => whnf)
      | (refine aIf_dec (fun _ => ?_) (fun _ => ?_) <;> conv => whnf))
    all_goals (first | exact retS rfl rfl | (exfalso; omega))
  · conv => whnf
    repeat' (first
      | (refine plan_in (id := 10) [0, 1, 2, 3, 4] (by kernel_rfl) (by kernel_rfl) ?_; conv => whnf)
      | (refine And.intro (by omega) ?_; conv => whnf)
      | (refine load_same ?_; conv => whnf)
      | (refine And.intro rfl (And.intro (List.cons_ne_nil _ _) ?_); conv => whnf)
      | (refine And.intro (Nat.le_of_ble_eq_true rfl) ?_; conv => whnf)
      | (refine callG_t ?_; conv => whnf)
      | (refine append_same ?_; conv => whnf)
      | (refine And.intro (pureL_ii _ _) ?_; conv => whnf)
      | (refine cut_ii rfl ?_; conv => whnf)
      | (refine sSumCost_call trivial ?_; conv => whnf)
      | (refine iSumCost_call trivial ?_; conv => whnf)
      | (refine szIndexSum_call (by omega) (fun _ _ => ?_); conv => whnf)
      | (refine toIndexSum_call (by omega) ?_; conv => whnf)
      | (refine eqIndexSum_call ?_; conv => whnf)
      | (refine takeN_in ?_; conv => whnf)
      | (refine And.intro (pureL_ints _ _) ?_; conv => whnf)
      | (refine cut_ints ?_; conv => whnf)
      | (refine set_force ?_; conv => whnf)
      | (refine And.intro (by kernel_rfl) ?_; conv => whnf)
      | refine aIf_not ?_
      | (refine aIf_decself ?_; conv => whnf)
      | (refine aIf_dec (fun _ => ?_) (fun _ => ?_) <;> conv => whnf))
    all_goals (first | exact retS rfl rfl | (exfalso; omega))

set_option maxRecDepth 100000 in
theorem FnExactSumCost_lifted (os : Os) (started : os.Started) (H : Type) (enc : TypeId × Value → H) :
    ReturnsInHanded {} Try.checked os 11 .any (Rows.fnExactSumCostSpec.pre6 enc Try.prog Try.f11 Rows.fnExactSumCostRow.domain false) (Rows.fnExactSumCostSpec.post enc Try.prog Try.f11 false true false false) := by
  refine returnsInHanded_of_change (C := Try.checked) own_ started (by kernel_rfl) Try.func11
    (ChangeSpec.witness6 (enc := enc) (C := Try.checked) false ⟨#[], #[.agg #[.slice none 0 0, .slice none 0 0, .slice none 0 0]], []⟩ 8 (by kernel_rfl) (by kernel_rfl) (by kernel_rfl) (by kernel_rfl)) ?_
  intro W base args ds gs before hval hW _ _
  refine law_postR (n := 6) law_FnExactSumCost laid_ (by kernel_rfl) (by kernel_rfl) (tb := 4) (by kernel_rfl) (by kernel_rfl) rfl ?_ ?_ hval hW
  · intro ds hl
    (match ds, hl with | [d0], _ => exact ⟨rfl, rfl, rfl⟩)
  · intro avs hl h
    have hl' : avs.length = 1 := hl
    obtain ⟨a0, rfl, ha0⟩ := avs1 hl' (p := fun j av => ∀ t, Try.f11.params.toList[j]? = some t → ArgR Try.prog t av) (fun j av hj t ht => h j t av ht hj); obtain ⟨zs, fs, o, rfl⟩ := argS (ha0 _ rfl); exact ⟨(1, zs, 1, fs, 1, o), rfl, rfl, trivial, fun r ic news hp => hp.1⟩
theorem FnExactSumCost_holds : Rows.FnExactSumCostSaid :=
  OpenClaim.holds_of_wide 11 Try.f11 rfl rfl rfl rfl rfl rfl rfl ⟨rfl, rfl, rfl, rfl, rfl⟩ rfl rfl rfl rfl rfl (by kernel_rfl) Try.func11
    (show joinedFacts Try.prog 11 Try.f11 Rows.fnExactSumCostSpec Rows.fnExactSumCostRow = true by unfold joinedFacts; rw [whole_may, whole_lifts, whole_make]; kernel_rfl)
    (of_decide_eq_true (by kernel_rfl)) (by unfold Func.isWrapper; rw [if_neg (of_decide_eq_false (by kernel_rfl))]; exact ⟨rfl, rfl⟩)
    (fun os started H enc _ => FnExactSumCost_lifted os started H enc)
end Go.Proofs.Ytmgggbgejdkamaa
