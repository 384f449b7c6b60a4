import Derived.Test.YtjmdhfjemaoebaaM2x7
import Derived.Test.YtjmdhfjemaoebaaM2x5
import Derived.Test.YtjmdhfjemaoebaaF0
/- For every argument, the program's ShiftOf answers as the model's ShiftOf, in memory of its own; it writes into nothing. No condition. -/
namespace Go.Proofs.Ytjmdhfjemaoebaa
set_option maxRecDepth 20000
open Go.RowKit Go.Am Go.WideShapes Go.ChangeShapes
attribute [local irreducible] aPlan aGet aIf aLoop aCall RetB NextB CallB CallG aCut aSet aAppend

set_option maxHeartbeats 8000000 in
theorem law_FnExactShiftOf : Sound Try.prog 6 (fnS (ι := Nat × List T2 × Nat × List T2 × Int) (fun | (c, ts, d, us, n) => [.sl c ts.length (ts.flatMap (tnC c)), .sl d us.length (us.flatMap (tnC d)), .int .i64 n]) (fun | (_, _, _, _, n) => (Lit.int .i64 n).wf = true) (fun _ => .bool true)) := by
  refine sound_of Try.func6 rfl (enters_of Try.func6 (by kernel_rfl) (by kernel_rfl)) ?_
  rintro ⟨c, ts, d, us, n⟩ hpre
  have hn : (Lit.int .i64 n).wf = true := hpre
  have hall := sgM_all ts us n
  have hsz := ttot_le67' (sgM ts us n).1 hall.1
  have hl3 := hall.2
  by_cases hs : ts.length + ttot ts + (us.length + ttot us) ≤ 1048576
  · have hp : ts.length ≤ 1048576 ∧ us.length ≤ 1048576 ∧ (Lit.int .i64 n).wf = true := ⟨by omega, by omega, hn⟩
    conv => whnf
    repeat' (first
      | (refine aIf_t ?_; conv => whnf)
      | (refine aIf_f ?_; conv => whnf)
      | (refine aGet_in rfl ?_; conv => whnf)
      | (refine markTs_call rfl rfl (by omega) ?_; conv => whnf)
      | (refine callG_t ?_; conv => whnf)
      | (refine append_same ?_; conv => whnf)
      | (refine And.intro (pureL_tn _ _) ?_; conv => whnf)
      | (refine cut_tn rfl ?_; conv => whnf)
      | (refine iShiftOf_call (by assumption) ?_; conv => whnf)
      | (refine sShiftOf_call (by assumption) ?_; conv => whnf)
      | (refine toTensorS_call (by constructor <;> omega) ?_; conv => whnf)
      | (refine eqTensorS_call trivial ?_; conv => whnf)
      | (refine szTensorS_call (by omega) (fun _ _ => ?_); conv => whnf)
      | (refine cut_marksTT rfl ?_; conv => whnf)
      | (refine heldTs_call rfl (by omega) ?_; conv => whnf)
      | (refine And.intro (by kernel_rfl) ?_; conv => whnf)
      | refine aIf_eqf ?_
      | refine aIf_not ?_
      | (refine aIf_beself ?_; conv => whnf)
      | (refine aIf_decself ?_; conv => whnf)
      | (refine aIf_dec (fun _ => ?_) (fun _ => ?_) <;> conv => whnf))
    all_goals (first | exact retS rfl rfl | (exfalso; omega))
  · conv => whnf
    repeat' (first
      | (refine And.intro (by omega) ?_; conv => whnf)
      | (refine callG_t ?_; conv => whnf)
      | (refine append_same ?_; conv => whnf)
      | (refine And.intro (pureL_tn _ _) ?_; conv => whnf)
      | (refine cut_tn rfl ?_; conv => whnf)
      | (refine toTensorS_call (by constructor <;> omega) ?_; conv => whnf)
      | (refine szTensorS_call (by omega) (fun _ _ => ?_); conv => whnf)
      | (refine aIf_dec (fun _ => ?_) (fun _ => ?_) <;> conv => whnf))
    all_goals (first | exact retS rfl rfl | (exfalso; omega))

set_option maxRecDepth 100000 in
theorem FnExactShiftOf_lifted (os : Os) (started : os.Started) (H : Type) (enc : TypeId × Value → H) :
    ReturnsInHanded {} Try.checked os 6 .any (Rows.fnExactShiftOfSpec.pre6 enc Try.prog Try.f6 Rows.fnExactShiftOfRow.domain false) (Rows.fnExactShiftOfSpec.post enc Try.prog Try.f6 false true false false) := by
  refine returnsInHanded_of_change (C := Try.checked) own_ started (by kernel_rfl) Try.func6
    (ChangeSpec.witness6 (enc := enc) (C := Try.checked) false ⟨#[], #[.slice none 0 0, .slice none 0 0, .int .i64 0], []⟩ 8 (by kernel_rfl) (by kernel_rfl) (by kernel_rfl) (by kernel_rfl)) ?_
  intro W base args ds gs before hval hW _ _
  refine law_postR (n := 6) law_FnExactShiftOf laid_ (by kernel_rfl) (by kernel_rfl) (tb := 4) (by kernel_rfl) (by kernel_rfl) rfl ?_ ?_ hval hW
  · intro ds hl
    (match ds, hl with | [d0, d1, d2], _ => exact ⟨rfl, rfl, rfl⟩)
  · intro avs hl h
    have hl' : avs.length = 3 := hl
    obtain ⟨a0, a1, a2, rfl, ha0, ha1, ha2⟩ := avs3 hl' (p := fun j av => ∀ t, Try.f6.params.toList[j]? = some t → ArgR Try.prog t av) (fun j av hj t ht => h j t av ht hj); obtain ⟨ts, rfl⟩ := argTs (ha0 _ rfl); obtain ⟨us, rfl⟩ := argTs (ha1 _ rfl); obtain ⟨n, rfl, hn⟩ := argI (ha2 _ rfl); exact ⟨(1, ts, 1, us, n), rfl, rfl, hn, fun r ic news hp => hp.1⟩
theorem FnExactShiftOf_holds : Rows.FnExactShiftOfSaid :=
  OpenClaim.holds_of_wide 6 Try.f6 rfl rfl rfl rfl rfl rfl rfl ⟨rfl, rfl, rfl, rfl, rfl⟩ rfl rfl rfl rfl rfl (by kernel_rfl) Try.func6
    (show joinedFacts Try.prog 6 Try.f6 Rows.fnExactShiftOfSpec Rows.fnExactShiftOfRow = true by unfold joinedFacts; rw [whole_may, whole_lifts, whole_make]; kernel_rfl)
    (of_decide_eq_true (by kernel_rfl)) (by unfold Func.isWrapper; rw [if_neg (of_decide_eq_false (by kernel_rfl))]; exact ⟨rfl, rfl⟩)
    (fun os started H enc _ => FnExactShiftOf_lifted os started H enc)
end Go.Proofs.Ytjmdhfjemaoebaa
