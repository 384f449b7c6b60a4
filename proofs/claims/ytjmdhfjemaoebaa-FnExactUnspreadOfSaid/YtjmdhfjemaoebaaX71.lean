import Derived.Test.YtjmdhfjemaoebaaX7
import Derived.Test.YtjmdhfjemaoebaaM012x16
import Derived.Test.YtjmdhfjemaoebaaF0
/- For every argument, the program's UnspreadOf answers as the model's UnspreadOf, in memory of its own; it writes into nothing. No condition. -/
namespace Go.Proofs.Ytjmdhfjemaoebaa
set_option maxRecDepth 20000
open Go.RowKit Go.Am Go.WideShapes Go.ChangeShapes
attribute [local irreducible] aPlan aGet aIf aLoop aCall RetB NextB CallB CallG aCut aSet aAppend

set_option maxHeartbeats 8000000 in
theorem law_FnExactUnspreadOf : Sound Try.prog 5 (fnS (ι := Nat × List Int × Nat × List Int × Nat × List Int) (fun | (c, xs, d, zs, e, ys) => [.agg [.sl c xs.length (xs.map (.int .i64)), .sl d zs.length (zs.map (.int .i64))], .sl e ys.length (ys.map (.int .i64))]) (fun _ => True) (fun _ => .bool true)) := by
  refine sound_of Try.func5 rfl (enters_of Try.func5 (by kernel_rfl) (by kernel_rfl)) ?_
  rintro ⟨c, xs, d, zs, e, ys⟩ -
  have hlen := unM_len xs zs ys
  conv => whnf
  repeat' (first
    | (refine plan_in (id := 13) [0, 1, 2, 3, 4] (by kernel_rfl) (by kernel_rfl) ?_; conv => whnf)
    | (refine aIf_t ?_; conv => whnf)
    | (refine aIf_f ?_; conv => whnf)
    | (refine fun (_ : _ ≤ maxLen) => ?_; conv => whnf)
    | (refine aGet_in rfl ?_; conv => whnf)
    | (refine load_same ?_; conv => whnf)
    | (refine And.intro rfl (And.intro (List.cons_ne_nil _ _) ?_); conv => whnf)
    | (refine And.intro (Nat.le_of_ble_eq_true rfl) ?_; conv => whnf)
    | (refine mark_call rfl (by rfl) (by omega) ?_; conv => whnf)
    | (refine markTensor_call rfl rfl (by decide) rfl rfl (by omega) ?_; conv => whnf)
    | (refine callG_t ?_; conv => whnf)
    | (refine szTensor_call (by omega) (fun _ _ => ?_); conv => whnf)
    | (refine toTensor_call (by omega) ?_; conv => whnf)
    | (refine eqTensor_call ?_; conv => whnf)
    | (refine heldTensor_call (by omega) (by omega) (by omega) ?_; conv => whnf)
    | (refine append_same ?_; conv => whnf)
    | (refine iUnspreadOf_call (by omega) ?_; conv => whnf)
    | (refine sUnspreadOf_call (by omega) ?_; conv => whnf)
    | (refine takeN_in ?_; conv => whnf)
    | (refine And.intro (pureL_ints _ _) ?_; conv => whnf)
    | (refine cut_ints ?_; conv => whnf)
    | (refine cut_marks ?_; conv => whnf)
    | (refine toIntS_call (by omega) ?_; conv => whnf)
    | (refine eqIntS_call ?_; conv => whnf)
    | (refine set_force ?_; conv => whnf)
    | (refine And.intro (by kernel_rfl) ?_; conv => whnf)
    | refine aIf_eqf ?_
    | refine aIf_not ?_
    | (refine aIf_beself ?_; conv => whnf)
    | (refine aIf_decself ?_; conv => whnf)
    | (refine aIf_dec (fun _ => ?_) (fun _ => ?_) <;> conv => whnf))
  all_goals (first | exact retS rfl rfl | (exfalso; omega))

set_option maxRecDepth 100000 in
theorem FnExactUnspreadOf_lifted (os : Os) (started : os.Started) (H : Type) (enc : TypeId × Value → H) :
    ReturnsInHanded {} Try.checked os 5 .any (Rows.fnExactUnspreadOfSpec.pre6 enc Try.prog Try.f5 Rows.fnExactUnspreadOfRow.domain false) (Rows.fnExactUnspreadOfSpec.post enc Try.prog Try.f5 false true false false) := by
  refine returnsInHanded_of_change (C := Try.checked) own_ started (by kernel_rfl) Try.func5
    (ChangeSpec.witness6 (enc := enc) (C := Try.checked) false ⟨#[], #[.agg #[.slice none 0 0, .slice none 0 0], .slice none 0 0], []⟩ 8 (by kernel_rfl) (by kernel_rfl) (by kernel_rfl) (by kernel_rfl)) ?_
  intro W base args ds gs before hval hW _ _
  refine law_postR (n := 6) law_FnExactUnspreadOf laid_ (by kernel_rfl) (by kernel_rfl) (tb := 4) (by kernel_rfl) (by kernel_rfl) rfl ?_ ?_ hval hW
  · intro ds hl
    (match ds, hl with | [d0, d1], _ => exact ⟨rfl, rfl, rfl⟩)
  · intro avs hl h
    have hl' : avs.length = 2 := hl
    obtain ⟨a0, a1, rfl, ha0, ha1⟩ := avs2 hl' (p := fun j av => ∀ t, Try.f5.params.toList[j]? = some t → ArgR Try.prog t av) (fun j av hj t ht => h j t av ht hj); obtain ⟨xs, zs, rfl⟩ := argT (ha0 _ rfl); obtain ⟨ys, rfl⟩ := argL (ha1 _ rfl); exact ⟨(1, xs, 1, zs, 1, ys), rfl, rfl, trivial, fun r ic news hp => hp.1⟩
theorem FnExactUnspreadOf_holds : Rows.FnExactUnspreadOfSaid :=
  OpenClaim.holds_of_wide 5 Try.f5 rfl rfl rfl rfl rfl rfl rfl ⟨rfl, rfl, rfl, rfl, rfl⟩ rfl rfl rfl rfl rfl (by kernel_rfl) Try.func5
    (show joinedFacts Try.prog 5 Try.f5 Rows.fnExactUnspreadOfSpec Rows.fnExactUnspreadOfRow = true by unfold joinedFacts; rw [whole_may, whole_lifts, whole_make]; kernel_rfl)
    (of_decide_eq_true (by kernel_rfl)) (by unfold Func.isWrapper; rw [if_neg (of_decide_eq_false (by kernel_rfl))]; exact ⟨rfl, rfl⟩)
    (fun os started H enc _ => FnExactUnspreadOf_lifted os started H enc)
end Go.Proofs.Ytjmdhfjemaoebaa
