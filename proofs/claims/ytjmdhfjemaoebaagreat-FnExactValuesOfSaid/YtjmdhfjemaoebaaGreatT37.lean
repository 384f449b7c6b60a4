import Derived.Test.YtjmdhfjemaoebaaGreatM01x31
import Derived.Test.YtjmdhfjemaoebaaGreatM01x32
import Derived.Test.YtjmdhfjemaoebaaGreatF0
namespace Go.Proofs.YtjmdhfjemaoebaaGreat
set_option maxRecDepth 20000
open Go.RowKit Go.Am Go.WideShapes Go.ChangeShapes
attribute [local irreducible] aPlan aGet aIf aLoop aCall RetB NextB CallB CallG aCut aSet aAppend
theorem ttot_le67 : ∀ (ts : List T2), allT ts → ttot ts ≤ 67 * ts.length
  | [], _ => by simp [ttot]
  | t :: ts, h => by
    have h1 := ttot_le67 ts fun j hj => h (j + 1) (by simpa using hj)
    have h2 := allT_len h (show 0 < (t :: ts).length by simp)
    have e : ttot (t :: ts) = t.1.length + t.2.length + ttot ts := by simp [ttot]
    have h2 : t.1.length ≤ 3 ∧ t.2.length ≤ 64 := h2
    rw [e, List.length_cons]; omega
theorem vaM_size (xss : List (List Int)) (ns : List Nd) (ts : List T2) (hE : eP ns) : (vaM xss ns ts).1.length ≤ 12 ∧ ttot (vaM xss ns ts).1 ≤ 804 := by
  by_cases h : inP xss ns ts
  · cases e : vaTo ns ts ns.length with
    | none => rw [vaM_n e]; exact ⟨Nat.zero_le _, Nat.zero_le _⟩
    | some vs =>
      rw [vaM_t h e]
      have hl := vaTo_len e
      have h12 := (shM_form h.1).1.2
      have ht := ttot_le67 vs (vaTo_ok h hE (Nat.le_refl _) e)
      exact ⟨by show vs.length ≤ 12; omega, by show ttot vs ≤ 804; omega⟩
  · rw [vaM_f h]; exact ⟨Nat.zero_le _, Nat.zero_le _⟩
set_option maxHeartbeats 8000000 in
theorem law_FnExactValuesOf : Sound Tryz.prog 6 (fnS (ι := Nat × List (List Int) × List Nd × Nat × List T2) (fun | (c, xss, ns, d, ts) => [.agg [.sl c xss.length (xss.map (slI c)), .sl c ns.length (ns.flatMap (ndC c))], .sl d ts.length (ts.flatMap (tnC d))]) (fun | (_, _, ns, _, _) => ∀ n ∈ ns, wfL n.l) (fun _ => .bool true)) := by
  refine sound_of Tryz.func6 rfl (enters_of Tryz.func6 (by kernel_rfl) (by kernel_rfl)) ?_
  rintro ⟨c, xss, ns, d, ts⟩ hpre
  have hw : ∀ n ∈ ns, wfL n.l := hpre
  have hsz := vaM_size xss ns ts
  by_cases hs : eSize xss ns ≤ 1048576
  · have hE := eP_of hs hw
    have hs' : xss.length + tot xss + (ns.length + ntot ns) ≤ 1048576 := hs
    have hsz := hsz hE
    by_cases ht : ts.length + ttot ts ≤ 1048576
    · conv => whnf
      repeat' (first
        | ((first | refine plan_in (id := 14) [0, 1, 2, 3, 4] (by kernel_rfl) (by kernel_rfl) ?_ | refine aIf_t ?_ | refine aIf_f ?_ | refine aGet_in rfl ?_ | refine load_same ?_ | refine And.intro rfl (And.intro (List.cons_ne_nil _ _) ?_) | refine And.intro (Nat.le_of_ble_eq_true rfl) ?_ | refine markExpr_call rfl rfl (by decide) rfl rfl (by omega) (fun _ => ?_) | refine markTs_call rfl rfl (by omega) ?_ | refine callG_t ?_ | refine append_same ?_ | refine And.intro (pureL_ii _ _) ?_ | refine And.intro (pureL_nd _ _) ?_ | refine And.intro (pureL_tn _ _) ?_ | refine cut_ii rfl ?_ | refine cut_nd rfl ?_ | refine cut_tn rfl ?_); conv => whnf) | (refine toTensorS_call (by constructor <;> omega) ?_; conv => whnf) | ((first | refine toExpr_call (by omega) ?_ | refine iValuesOf_call (by assumption) ?_ | refine eqTensorS_call trivial ?_ | refine eqExpr_call trivial ?_ | refine szTensorS_call (by omega) (fun _ _ => ?_) | refine szExpr_call (by omega) (fun _ _ => ?_) | refine sValuesOf_call (by assumption) ?_ | refine cut_marksTT rfl ?_ | refine heldTs_call rfl (by omega) ?_ | refine takeN_in ?_ | refine set_force ?_ | refine And.intro (by kernel_rfl) ?_); conv => whnf) | refine aIf_eqf ?_
        | refine aIf_not ?_ | ((first | refine aIf_beself ?_ | refine aIf_decself ?_); conv => whnf)
        | (refine aIf_dec (fun _ => ?_) (fun _ => ?_) <;> conv => whnf))
      all_goals (first | exact retS rfl rfl | (exfalso; omega))
    · conv => whnf
      repeat' (first
        | ((first | refine plan_in (id := 14) [0, 1, 2, 3, 4] (by kernel_rfl) (by kernel_rfl) ?_ | refine aIf_t ?_ | refine aIf_f ?_ | refine aGet_in rfl ?_ | refine And.intro (by omega) ?_ | refine load_same ?_ | refine And.intro rfl (And.intro (List.cons_ne_nil _ _) ?_) | refine And.intro (Nat.le_of_ble_eq_true rfl) ?_ | refine markExpr_call rfl rfl (by decide) rfl rfl (by omega) (fun _ => ?_) | refine markTs_call rfl rfl (by omega) ?_ | refine callG_t ?_ | refine append_same ?_ | refine And.intro (pureL_ii _ _) ?_ | refine And.intro (pureL_nd _ _) ?_ | refine And.intro (pureL_tn _ _) ?_ | refine cut_ii rfl ?_ | refine cut_nd rfl ?_ | refine cut_tn rfl ?_); conv => whnf) | (refine toTensorS_call (by constructor <;> omega) ?_; conv => whnf) | ((first | refine toExpr_call (by omega) ?_ | refine iValuesOf_call (by assumption) ?_ | refine eqTensorS_call trivial ?_ | refine eqExpr_call trivial ?_ | refine szTensorS_call (by omega) (fun _ _ => ?_) | refine szExpr_call (by omega) (fun _ _ => ?_) | refine sValuesOf_call (by assumption) ?_ | refine cut_marksTT rfl ?_ | refine heldTs_call rfl (by omega) ?_ | refine takeN_in ?_ | refine set_force ?_ | refine And.intro (by kernel_rfl) ?_); conv => whnf) | refine aIf_eqf ?_
        | refine aIf_not ?_ | ((first | refine aIf_beself ?_ | refine aIf_decself ?_); conv => whnf)
        | (refine aIf_dec (fun _ => ?_) (fun _ => ?_) <;> conv => whnf))
      all_goals (first | exact retS rfl rfl | (exfalso; omega))
  · conv => whnf
    repeat' (first
      | ((first | refine plan_in (id := 14) [0, 1, 2, 3, 4] (by kernel_rfl) (by kernel_rfl) ?_ | refine And.intro (by omega) ?_ | refine load_same ?_ | refine And.intro rfl (And.intro (List.cons_ne_nil _ _) ?_) | refine And.intro (Nat.le_of_ble_eq_true rfl) ?_ | refine callG_t ?_ | refine append_same ?_ | refine And.intro (pureL_ii _ _) ?_ | refine And.intro (pureL_nd _ _) ?_ | refine cut_ii rfl ?_ | refine cut_nd rfl ?_ | refine cut_tn rfl ?_); conv => whnf) | (refine toTensorS_call (by constructor <;> omega) ?_; conv => whnf) | ((first | refine toExpr_call (by omega) ?_ | refine szTensorS_call (by omega) (fun _ _ => ?_) | refine szExpr_call (by omega) (fun _ _ => ?_) | refine takeN_in ?_ | refine And.intro (by kernel_rfl) ?_); conv => whnf) | (refine aIf_dec (fun _ => ?_) (fun _ => ?_) <;> conv => whnf))
    all_goals (first | exact retS rfl rfl | (exfalso; omega))
set_option maxRecDepth 100000 in
theorem FnExactValuesOf_lifted (os : Os) (started : os.Started) (H : Type) (enc : TypeId × Value → H) :
    ReturnsInHanded {} Tryz.checked os 6 .any (Rows.fnExactValuesOfSpec.pre6 enc Tryz.prog Tryz.f6 Rows.fnExactValuesOfRow.domain false) (Rows.fnExactValuesOfSpec.post enc Tryz.prog Tryz.f6 false true false false) := by
  refine returnsInHanded_of_change (C := Tryz.checked) own_ started (by kernel_rfl) Tryz.func6
    (ChangeSpec.witness6 (enc := enc) (C := Tryz.checked) false ⟨#[], #[.agg #[.slice none 0 0, .slice none 0 0], .slice none 0 0], []⟩ 8 (by kernel_rfl) (by kernel_rfl) (by kernel_rfl) (by kernel_rfl)) ?_
  intro W base args ds gs before hval hW _ _
  refine law_postR (n := 6) law_FnExactValuesOf laid_ (by kernel_rfl) (by kernel_rfl) (tb := 4) (by kernel_rfl) (by kernel_rfl) rfl ?_ ?_ hval hW
  · intro ds hl
    (match ds, hl with | [d0, d1], _ => exact ⟨rfl, rfl, rfl⟩)
  · intro avs hl h
    have hl' : avs.length = 2 := hl
    obtain ⟨a0, a1, rfl, ha0, ha1⟩ := avs2 hl' (p := fun j av => ∀ t, Tryz.f6.params.toList[j]? = some t → ArgR Tryz.prog t av) (fun j av hj t ht => h j t av ht hj); obtain ⟨xss, ns, rfl, hw⟩ := argE (ha0 _ rfl); obtain ⟨ts, rfl⟩ := argTs (ha1 _ rfl); exact ⟨(1, xss, ns, 1, ts), rfl, rfl, hw, fun r ic news hp => hp.1⟩
theorem FnExactValuesOf_holds : Rows.FnExactValuesOfSaid :=
  OpenClaim.holds_of_wide 6 Tryz.f6 rfl rfl rfl rfl rfl rfl rfl ⟨rfl, rfl, rfl, rfl, rfl⟩ rfl rfl rfl rfl rfl (by kernel_rfl) Tryz.func6
    (show joinedFacts Tryz.prog 6 Tryz.f6 Rows.fnExactValuesOfSpec Rows.fnExactValuesOfRow = true by unfold joinedFacts; rw [whole_may, whole_lifts, whole_make]; kernel_rfl)
    (of_decide_eq_true (by kernel_rfl)) (by unfold Func.isWrapper; rw [if_neg (of_decide_eq_false (by kernel_rfl))]; exact ⟨rfl, rfl⟩)
    (fun os started H enc _ => FnExactValuesOf_lifted os started H enc)
end Go.Proofs.YtjmdhfjemaoebaaGreat
