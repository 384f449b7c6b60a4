/- The law FnSpread: for every list of bytes it answers true, and leaves its argument as it was. No conditions. -/
import Derived.Test.YtmhpandbmoalaaaP30
namespace Go.Proofs.Ytmhpandbmoalaaa
open Go.RowKit Go.Am Go.WideShapes Go.ChangeShapes

set_option maxRecDepth 100000 in
theorem FnSpread_lifted (os : Os) (started : os.Started) (H : Type) (enc : TypeId × Value → H) :
    ReturnsInHanded {} Try.checked os 4 .any (Rows.fnSpreadSpec.pre6 enc Try.prog Try.f4 Rows.fnSpreadRow.domain false) (Rows.fnSpreadSpec.post enc Try.prog Try.f4 false true false false) := by
  refine returnsInHanded_of_change (C := Try.checked) own_ started (by kernel_rfl) Try.func4
    (ChangeSpec.witness6 (enc := enc) (C := Try.checked) false ⟨#[], #[.slice none 0 0], []⟩ 8 (by kernel_rfl) (by kernel_rfl) (by kernel_rfl) (by kernel_rfl)) ?_
  intro W base args ds gs before hval hW _ _
  refine law_post law_FnSpread laid_ (by kernel_rfl) (by kernel_rfl) (tb := 4) (by kernel_rfl) (by kernel_rfl) rfl ?_ ?_ hval hW
  · intro ds hl
    (match ds, hl with | [d], _ => exact ⟨rfl, rfl, rfl⟩)
  · intro avs hl h
    have hl' : avs.length = 1 := hl
    obtain ⟨a, rfl, ha⟩ := avs1 hl' (p := fun j av => ∀ t, Try.f4.params.toList[j]? = some t → ArgOk Try.prog t av) (fun j av hj t ht => h j t av ht hj); obtain ⟨bs, rfl, hb⟩ := argBytes uBytes uByte (ha _ rfl); exact ⟨bs, rfl, rfl, hb, fun r ic news hp => hp.1⟩
theorem FnSpread_holds : Rows.FnSpreadSaid :=
  OpenClaim.holds_of_wide 4 Try.f4 rfl rfl rfl rfl rfl rfl rfl ⟨rfl, rfl, rfl, rfl, rfl⟩ rfl rfl rfl rfl rfl (by kernel_rfl) Try.func4 (by kernel_rfl)
    (of_decide_eq_true (by kernel_rfl)) (by unfold Func.isWrapper; rw [if_neg (of_decide_eq_false (by kernel_rfl))]; exact ⟨rfl, rfl⟩)
    (fun os started H enc _ => FnSpread_lifted os started H enc)
end Go.Proofs.Ytmhpandbmoalaaa
