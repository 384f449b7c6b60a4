import Derived.Test.YtjmdhfjemaoebaaGreatT38
import Derived.Test.YtjmdhfjemaoebaaGreatM01x32
import Derived.Test.YtjmdhfjemaoebaaGreatF0
namespace Go.Proofs.YtjmdhfjemaoebaaGreat
set_option maxRecDepth 20000
open Go.RowKit Go.Am Go.WideShapes Go.ChangeShapes
attribute [local irreducible] aPlan aGet aIf aLoop aCall RetB NextB CallB CallG aCut aSet aAppend
theorem voM_len (xss : List (List Int)) (ns : List Nd) (ts : List T2) (hE : eP ns) : (voM xss ns ts).1.length ≤ 3 ∧ (voM xss ns ts).2.1.length ≤ 64 := by
  cases hb : (vaM xss ns ts).2 with
  | false =>
    have hM : voM xss ns ts = ([], [], false) := by unfold voM; rw [hb]; rfl
    rw [hM]; exact ⟨Nat.zero_le _, Nat.zero_le _⟩
  | true =>
    have hp := vaM_pos hb
    rw [voM_t hb]
    by_cases h : inP xss ns ts
    · cases e : vaTo ns ts ns.length with
      | none => rw [vaM_n e] at hb; cases hb
      | some vs =>
        rw [vaM_t h e] at hp ⊢
        have h2 := allT_len (vaTo_ok h hE (Nat.le_refl _) e) (show vs.length - 1 < vs.length by have : 1 ≤ vs.length := hp.1; omega)
        exact h2
    · rw [vaM_f h] at hb; cases hb
set_option maxHeartbeats 8000000 in
theorem law_FnExactValueOf : Sound Tryz.prog 7 (fnS (ι := Nat × List (List Int) × List Nd × Nat × List T2) (fun | (c, xss, ns, d, ts) => [.agg [.sl c xss.length (xss.map (slI c)), .sl c ns.length (ns.flatMap (ndC c))], .sl d ts.length (ts.flatMap (tnC d))]) (fun | (_, _, ns, _, _) => ∀ n ∈ ns, wfL n.l) (fun _ => .bool true)) := by
  refine sound_of Tryz.func7 rfl (enters_of Tryz.func7 (by kernel_rfl) (by kernel_rfl)) ?_
  rintro ⟨c, xss, ns, d, ts⟩ hpre
  have hw : ∀ n ∈ ns, wfL n.l := hpre
  have hsz := voM_len xss ns ts
  by_cases hs : eSize xss ns ≤ 1048576
  · have hE := eP_of hs hw
    have hs' : xss.length + tot xss + (ns.length + ntot ns) ≤ 1048576 := hs
    have hsz := hsz hE
    by_cases ht : ts.length + ttot ts ≤ 1048576
    · conv => whnf
      repeat' (first
        | ((first | refine plan_in (id := 14) [0, 1, 2, 3, 4] (by kernel_rfl) (by kernel_rfl) ?_ | refine aIf_t ?_ | refine aIf_f ?_ | refine aGet_in rfl ?_ | refine load_same ?_ | refine And.intro rfl (And.intro (List.cons_ne_nil _ _) ?_) | refine And.intro (Nat.le_of_ble_eq_true rfl) ?_ | refine markTensor_call rfl rfl (by decide) rfl rfl (by omega) ?_ | refine markExpr_call rfl rfl (by decide) rfl rfl (by omega) (fun _ => ?_) | refine markTs_call rfl rfl (by omega) ?_ | refine callG_t ?_ | refine eqTensor_call ?_ | refine heldTensor_call (by omega) (by omega) (by omega) ?_ | refine append_same ?_ | refine And.intro (pureL_ii _ _) ?_ | refine And.intro (pureL_nd _ _) ?_ | refine And.intro (pureL_tn _ _) ?_ | refine cut_ii rfl ?_ | refine cut_nd rfl ?_ | refine cut_tn rfl ?_); conv => whnf) | (refine toTensorS_call (by constructor <;> omega) ?_; conv => whnf) | ((first | refine toExpr_call (by omega) ?_ | refine eqTensorS_call trivial ?_ | refine eqExpr_call trivial ?_ | refine szTensorS_call (by omega) (fun _ _ => ?_) | refine szExpr_call (by omega) (fun _ _ => ?_) | refine iValueOf_call (by assumption) ?_ | refine sValueOf_call (by assumption) ?_ | refine takeN_in ?_ | refine cut_ints ?_ | refine cut_marks ?_ | refine set_force ?_ | refine And.intro (by kernel_rfl) ?_); conv => whnf) | refine aIf_eqf ?_
        | refine aIf_not ?_ | ((first | refine aIf_beself ?_ | refine aIf_decself ?_); conv => whnf)
        | (refine aIf_dec (fun _ => ?_) (fun _ => ?_) <;> conv => whnf))
      all_goals (first | exact retS rfl rfl | (exfalso; omega))
    · conv => whnf
      repeat' (first
        | ((first | refine plan_in (id := 14) [0, 1, 2, 3, 4] (by kernel_rfl) (by kernel_rfl) ?_ | refine aIf_t ?_ | refine aIf_f ?_ | refine aGet_in rfl ?_ | refine And.intro (by omega) ?_ | refine load_same ?_ | refine And.intro rfl (And.intro (List.cons_ne_nil _ _) ?_) | refine And.intro (Nat.le_of_ble_eq_true rfl) ?_ | refine markTensor_call rfl rfl (by decide) rfl rfl (by omega) ?_ | refine markExpr_call rfl rfl (by decide) rfl rfl (by omega) (fun _ => ?_) | refine markTs_call rfl rfl (by omega) ?_ | refine callG_t ?_ | refine eqTensor_call ?_ | refine heldTensor_call (by omega) (by omega) (by omega) ?_ | refine append_same ?_ | refine And.intro (pureL_ii _ _) ?_ | refine And.intro (pureL_nd _ _) ?_ | refine And.intro (pureL_tn _ _) ?_ | refine cut_ii rfl ?_ | refine cut_nd rfl ?_ | refine cut_tn rfl ?_); conv => whnf) | (refine toTensorS_call (by constructor <;> omega) ?_; conv => whnf) | ((first | refine toExpr_call (by omega) ?_ | refine eqTensorS_call trivial ?_ | refine eqExpr_call trivial ?_ | refine szTensorS_call (by omega) (fun _ _ => ?_) | refine szExpr_call (by omega) (fun _ _ => ?_) | refine iValueOf_call (by assumption) ?_ | refine sValueOf_call (by assumption) ?_ | refine takeN_in ?_ | refine cut_ints ?_ | refine cut_marks ?_ | refine set_force ?_ | refine And.intro (by kernel_rfl) ?_); conv => whnf) | refine aIf_eqf ?_
        | refine aIf_not ?_ | ((first | refine aIf_beself ?_ | refine aIf_decself ?_); conv => whnf)
        | (refine aIf_dec (fun _ => ?_) (fun _ => ?_) <;> conv => whnf))
      all_goals (first | exact retS rfl rfl | (exfalso; omega))
  · conv => whnf
    repeat' (first
      | ((first | refine plan_in (id := 14) [0, 1, 2, 3, 4] (by kernel_rfl) (by kernel_rfl) ?_ | refine And.intro (by omega) ?_ | refine load_same ?_ | refine And.intro rfl (And.intro (List.cons_ne_nil _ _) ?_) | refine And.intro (Nat.le_of_ble_eq_true rfl) ?_ | refine callG_t ?_ | refine append_same ?_ | refine And.intro (pureL_ii _ _) ?_ | refine And.intro (pureL_nd _ _) ?_ | refine cut_ii rfl ?_ | refine cut_nd rfl ?_ | refine cut_tn rfl ?_); conv => whnf) | (refine toTensorS_call (by constructor <;> omega) ?_; conv => whnf) | ((first | refine toExpr_call (by omega) ?_ | refine szTensorS_call (by omega) (fun _ _ => ?_) | refine szExpr_call (by omega) (fun _ _ => ?_) | refine takeN_in ?_ | refine And.intro (by kernel_rfl) ?_); conv => whnf) | (refine aIf_dec (fun _ => ?_) (fun _ => ?_) <;> conv => whnf))
    all_goals (first | exact retS rfl rfl | (exfalso; omega))
set_option maxRecDepth 100000 in
theorem FnExactValueOf_lifted (os : Os) (started : os.Started) (H : Type) (enc : TypeId × Value → H) :
    ReturnsInHanded {} Tryz.checked os 7 .any (Rows.fnExactValueOfSpec.pre6 enc Tryz.prog Tryz.f7 Rows.fnExactValueOfRow.domain false) (Rows.fnExactValueOfSpec.post enc Tryz.prog Tryz.f7 false true false false) := by
  refine returnsInHanded_of_change (C := Tryz.checked) own_ started (by kernel_rfl) Tryz.func7
    (ChangeSpec.witness6 (enc := enc) (C := Tryz.checked) false ⟨#[], #[.agg #[.slice none 0 0, .slice none 0 0], .slice none 0 0], []⟩ 8 (by kernel_rfl) (by kernel_rfl) (by kernel_rfl) (by kernel_rfl)) ?_
  intro W base args ds gs before hval hW _ _
  refine law_postR (n := 6) law_FnExactValueOf laid_ (by kernel_rfl) (by kernel_rfl) (tb := 4) (by kernel_rfl) (by kernel_rfl) rfl ?_ ?_ hval hW
  · intro ds hl
    (match ds, hl with | [d0, d1], _ => exact ⟨rfl, rfl, rfl⟩)
  · intro avs hl h
    have hl' : avs.length = 2 := hl
    obtain ⟨a0, a1, rfl, ha0, ha1⟩ := avs2 hl' (p := fun j av => ∀ t, Tryz.f7.params.toList[j]? = some t → ArgR Tryz.prog t av) (fun j av hj t ht => h j t av ht hj); obtain ⟨xss, ns, rfl, hw⟩ := argE (ha0 _ rfl); obtain ⟨ts, rfl⟩ := argTs (ha1 _ rfl); exact ⟨(1, xss, ns, 1, ts), rfl, rfl, hw, fun r ic news hp => hp.1⟩
theorem FnExactValueOf_holds : Rows.FnExactValueOfSaid :=
  OpenClaim.holds_of_wide 7 Tryz.f7 rfl rfl rfl rfl rfl rfl rfl ⟨rfl, rfl, rfl, rfl, rfl⟩ rfl rfl rfl rfl rfl (by kernel_rfl) Tryz.func7
    (show joinedFacts Tryz.prog 7 Tryz.f7 Rows.fnExactValueOfSpec Rows.fnExactValueOfRow = true by unfold joinedFacts; rw [whole_may, whole_lifts, whole_make]; kernel_rfl)
    (of_decide_eq_true (by kernel_rfl)) (by unfold Func.isWrapper; rw [if_neg (of_decide_eq_false (by kernel_rfl))]; exact ⟨rfl, rfl⟩)
    (fun os started H enc _ => FnExactValueOf_lifted os started H enc)
end Go.Proofs.YtjmdhfjemaoebaaGreat
