import Derived.Test.YtpbenelmklggcaaGreatM02x1
import Derived.Test.YtpbenelmklggcaaGreatM012x31
import Derived.Test.YtpbenelmklggcaaGreatF0
/- For every argument, the program's ChangesOf answers as the model's ChangesOf, in memory of its own; it writes into nothing. No condition. -/
namespace Go.Proofs.YtpbenelmklggcaaGreat
set_option maxRecDepth 20000
open Go.RowKit Go.Am Go.WideShapes Go.ChangeShapes
attribute [local irreducible] aPlan aGet aIf aLoop aCall RetB NextB CallB CallG aCut aSet aAppend
theorem tot_two : ∀ (L : List (List Int)), (∀ x ∈ L, x.length = 2) → tot L = 2 * L.length
  | [], _ => rfl
  | x :: L, h => by
    have h1 := tot_two L fun y hy => h y (List.mem_cons_of_mem _ hy)
    have h2 := h x List.mem_cons_self
    have e : tot (x :: L) = x.length + tot L := by simp [tot]
    rw [e, List.length_cons]; omega
theorem chL_size (xss : List (List Int)) (ns : List Nd) : (chL xss ns).length ≤ 108 ∧ tot (chL xss ns) ≤ 216 := by
  have h2 : ∀ x ∈ chL xss ns, x.length = 2 := fun x hx => by
    obtain ⟨_, c, k, rfl, _⟩ := chL_p hx
    rfl
  have ht := tot_two _ h2
  have hl : (chL xss ns).length ≤ 108 := by
    unfold chL
    split
    · rename_i hM
      have h12 := (exI_of hM).n12
      have := allC_le xss ns 9
      omega
    · exact Nat.zero_le _
  exact ⟨hl, by omega⟩

set_option maxHeartbeats 8000000 in
theorem law_FnExactChangesOf : Sound Tryz.prog 4 (fnS (ι := Nat × List (List Int) × List Nd) (fun | (c, xss, ns) => [.agg [.sl c xss.length (xss.map (slI c)), .sl c ns.length (ns.flatMap (ndC c))]]) (fun | (_, _, ns) => ∀ n ∈ ns, wfL n.l) (fun _ => .bool true)) := by
  refine sound_of Tryz.func4 rfl (enters_of Tryz.func4 (by kernel_rfl) (by kernel_rfl)) ?_
  rintro ⟨c, xss, ns⟩ hpre
  have hw : ∀ n ∈ ns, wfL n.l := hpre
  obtain ⟨hcl, hct⟩ := chL_size xss ns
  by_cases hs : eSize xss ns ≤ 1048576
  · have hE := eP_of hs hw
    have hs' : xss.length + tot xss + (ns.length + ntot ns) ≤ 1048576 := hs
    conv => whnf
    repeat' (first
      | (refine plan_in (id := 10) [0, 1, 2, 3, 4] (by kernel_rfl) (by kernel_rfl) ?_; conv => whnf)
      | (refine aIf_t ?_; conv => whnf)
      | (refine aIf_f ?_; conv => whnf)
      | (refine load_same ?_; conv => whnf)
      | (refine And.intro rfl (And.intro (List.cons_ne_nil _ _) ?_); conv => whnf)
      | (refine And.intro (Nat.le_of_ble_eq_true rfl) ?_; conv => whnf)
      | (refine markII_call rfl rfl (by omega) ?_; conv => whnf)
      | (refine markExpr_call rfl rfl (by decide) rfl rfl (by omega) (fun _ => ?_); conv => whnf)
      | (refine callG_t ?_; conv => whnf)
      | (refine append_same ?_; conv => whnf)
      | (refine And.intro (pureL_ii _ _) ?_; conv => whnf)
      | (refine And.intro (pureL_nd _ _) ?_; conv => whnf)
      | (refine cut_ii rfl ?_; conv => whnf)
      | (refine cut_nd rfl ?_; conv => whnf)
      | (refine toExpr_call (by omega) ?_; conv => whnf)
      | (refine eqIntSS_call trivial ?_; conv => whnf)
      | (refine eqExpr_call trivial ?_; conv => whnf)
      | (refine szExpr_call (by omega) (fun _ _ => ?_); conv => whnf)
      | (refine cut_marksII rfl ?_; conv => whnf)
      | (refine heldIntSS_call rfl (by omega) ?_; conv => whnf)
      | (refine sChangesOf_call (by assumption) ?_; conv => whnf)
      | (refine iChangesOf_call (by assumption) ?_; conv => whnf)
      | (refine takeN_in ?_; conv => whnf)
      | (refine set_force ?_; conv => whnf)
      | (refine And.intro (by kernel_rfl) ?_; conv => whnf)
      | refine aIf_not ?_
      | (refine aIf_decself ?_; conv => whnf)
      | (refine aIf_dec (fun _ => ?_) (fun _ => ?_) <;> conv => whnf))
    all_goals (first | exact retS rfl rfl | (exfalso; omega))
  · conv => whnf
    repeat' (first
      | (refine plan_in (id := 10) [0, 1, 2, 3, 4] (by kernel_rfl) (by kernel_rfl) ?_; conv => whnf)
      | (refine And.intro (by omega) ?_; conv => whnf)
      | (refine load_same ?_; conv => whnf)
      | (refine And.intro rfl (And.intro (List.cons_ne_nil _ _) ?_); conv => whnf)
      | (refine And.intro (Nat.le_of_ble_eq_true rfl) ?_; conv => whnf)
      | (refine callG_t ?_; conv => whnf)
      | (refine append_same ?_; conv => whnf)
      | (refine And.intro (pureL_ii _ _) ?_; conv => whnf)
      | (refine And.intro (pureL_nd _ _) ?_; conv => whnf)
      | (refine cut_ii rfl ?_; conv => whnf)
      | (refine cut_nd rfl ?_; conv => whnf)
      | (refine toExpr_call (by omega) ?_; conv => whnf)
      | (refine szExpr_call (by omega) (fun _ _ => ?_); conv => whnf)
      | (refine takeN_in ?_; conv => whnf)
      | (refine And.intro (by kernel_rfl) ?_; conv => whnf)
      | (refine aIf_dec (fun _ => ?_) (fun _ => ?_) <;> conv => whnf))
    all_goals (first | exact retS rfl rfl | (exfalso; omega))

set_option maxRecDepth 100000 in
theorem FnExactChangesOf_lifted (os : Os) (started : os.Started) (H : Type) (enc : TypeId × Value → H) :
    ReturnsInHanded {} Tryz.checked os 4 .any (Rows.fnExactChangesOfSpec.pre6 enc Tryz.prog Tryz.f4 Rows.fnExactChangesOfRow.domain false) (Rows.fnExactChangesOfSpec.post enc Tryz.prog Tryz.f4 false true false false) := by
  refine returnsInHanded_of_change (C := Tryz.checked) own_ started (by kernel_rfl) Tryz.func4
    (ChangeSpec.witness6 (enc := enc) (C := Tryz.checked) false ⟨#[], #[.agg #[.slice none 0 0, .slice none 0 0]], []⟩ 8 (by kernel_rfl) (by kernel_rfl) (by kernel_rfl) (by kernel_rfl)) ?_
  intro W base args ds gs before hval hW _ _
  refine law_postR (n := 6) law_FnExactChangesOf laid_ (by kernel_rfl) (by kernel_rfl) (tb := 4) (by kernel_rfl) (by kernel_rfl) rfl ?_ ?_ hval hW
  · intro ds hl
    (match ds, hl with | [d0], _ => exact ⟨rfl, rfl, rfl⟩)
  · intro avs hl h
    have hl' : avs.length = 1 := hl
    obtain ⟨a0, rfl, ha0⟩ := avs1 hl' (p := fun j av => ∀ t, Tryz.f4.params.toList[j]? = some t → ArgR Tryz.prog t av) (fun j av hj t ht => h j t av ht hj); obtain ⟨xss, ns, rfl, hw⟩ := argE (ha0 _ rfl); exact ⟨(1, xss, ns), rfl, rfl, hw, fun r ic news hp => hp.1⟩
theorem FnExactChangesOf_holds : Rows.FnExactChangesOfSaid :=
  OpenClaim.holds_of_wide 4 Tryz.f4 rfl rfl rfl rfl rfl rfl rfl ⟨rfl, rfl, rfl, rfl, rfl⟩ rfl rfl rfl rfl rfl (by kernel_rfl) Tryz.func4
    (show joinedFacts Tryz.prog 4 Tryz.f4 Rows.fnExactChangesOfSpec Rows.fnExactChangesOfRow = true by unfold joinedFacts; rw [whole_may, whole_lifts, whole_make]; kernel_rfl)
    (of_decide_eq_true (by kernel_rfl)) (by unfold Func.isWrapper; rw [if_neg (of_decide_eq_false (by kernel_rfl))]; exact ⟨rfl, rfl⟩)
    (fun os started H enc _ => FnExactChangesOf_lifted os started H enc)
end Go.Proofs.YtpbenelmklggcaaGreat
