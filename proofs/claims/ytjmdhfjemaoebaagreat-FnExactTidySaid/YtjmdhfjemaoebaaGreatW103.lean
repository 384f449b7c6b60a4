import Derived.Test.YtjmdhfjemaoebaaGreatM0x46
import Derived.Test.YtjmdhfjemaoebaaGreatW101
import Derived.Test.YtjmdhfjemaoebaaGreatF0
namespace Go.Proofs.YtjmdhfjemaoebaaGreat
set_option maxRecDepth 20000
open Go.RowKit Go.Am Go.WideShapes Go.ChangeShapes
attribute [local irreducible] aPlan aGet aIf aLoop aCall RetB NextB CallB CallG aCut aSet aAppend
theorem tot_le3T : ∀ (L : List (List Int)), (∀ k, k < L.length → (L.getD k []).length ≤ 3) → tot L ≤ 3 * L.length
  | [], _ => Nat.le_refl _
  | x :: L, h => by
    have h1 := tot_le3T L fun k hk => by
      have := h (k + 1) (by simpa using hk)
      simpa using this
    have h0 : x.length ≤ 3 := by simpa using h 0 (by simp)
    have e : tot (x :: L) = x.length + tot L := by simp [tot]
    rw [e, List.length_cons]; omega
theorem ntot_le3T : ∀ (L : List Nd), (∀ k, k < L.length → (L.getD k default).l.length ≤ 3) → ntot L ≤ 3 * L.length
  | [], _ => Nat.le_refl _
  | x :: L, h => by
    have h1 := ntot_le3T L fun k hk => by
      have := h (k + 1) (by simpa using hk)
      simpa using this
    have h0 : x.l.length ≤ 3 := by simpa using h 0 (by simp)
    have e : ntot (x :: L) = x.l.length + ntot L := by simp [ntot]
    rw [e, List.length_cons]; omega
theorem cdO_smT {xss : List (List Int)} {ns L : List Nd} {ch p : Int} (h : cdO xss ns ch p = some L) : (xss.length ≤ 3 ∧ ∀ k, k < xss.length → (xss.getD k []).length ≤ 3) ∧ L.length ≤ 12 ∧ ∀ k, k < L.length → (L.getD k default).l.length ≤ 3 := by
  unfold cdO at h
  split at h
  · rename_i hc
    obtain ⟨hM, hp0, hpl⟩ := hc
    have hX := exI_of hM
    have h12 := hX.n12
    have hq : p.toNat < ns.length := by omega
    refine ⟨hX.ins3, ?_⟩
    split at h
    · split at h
      · injection h with h; subst h
        exact ⟨by have := dTo_le ns p.toNat ns.length; unfold dropN; omega, dTo_l (fun k hk => hX.l3 hk) _ (Nat.le_refl _)⟩
      · cases h
    · obtain ⟨n, hn, rfl⟩ := Option.map_eq_some_iff.1 h
      exact ⟨by rw [List.length_set]; exact h12, getD_set_l hq (hX.cX_l3 hq hn) (fun k hk => hX.l3 hk)⟩
  · cases h
theorem tdI_sm (xss : List (List Int)) : ∀ (f : Nat) (L : List Nd), (L.length ≤ 12 ∧ ∀ k, k < L.length → (L.getD k default).l.length ≤ 3) → (tdI xss f L).length ≤ 12 ∧ ∀ k, k < (tdI xss f L).length → ((tdI xss f L).getD k default).l.length ≤ 3
  | 0, _, h => h
  | f + 1, L, h => by
    cases hc : chL xss L with
    | nil => rw [tdI_e hc]; exact h
    | cons x r =>
      cases hO : cdO xss L (x.getD (Int.toNat 0) 0) (x.getD (Int.toNat 1) 0) with
      | none =>
        have e : tdI xss (f + 1) L = L := by unfold tdI; rw [hc]; simp only; rw [hO]
        rw [e]; exact h
      | some L' => rw [tdI_s hc hO]; exact tdI_sm xss f L' (cdO_smT hO).2
theorem tdE_size (xss : List (List Int)) (ns : List Nd) : eSize (tdE xss ns).1 (tdE xss ns).2 ≤ 1000 := by
  unfold tdE
  split
  · rename_i hM
    have hX := exI_of hM
    obtain ⟨h1, h2⟩ := hX.ins3
    obtain ⟨h3, h4⟩ := tdI_sm xss (mu ns) ns ⟨hX.n12, fun k hk => hX.l3 hk⟩
    have h5 := tot_le3T xss h2
    have h6 := ntot_le3T _ h4
    show xss.length + tot xss + ((tdI xss (mu ns) ns).length + ntot (tdI xss (mu ns) ns)) ≤ 1000
    omega
  · exact Nat.zero_le _
set_option maxHeartbeats 8000000 in
theorem law_FnExactTidy : Sound Tryz.prog 3 (fnS (ι := Nat × List (List Int) × List Nd) (fun | (c, xss, ns) => [.agg [.sl c xss.length (xss.map (slI c)), .sl c ns.length (ns.flatMap (ndC c))]]) (fun | (_, _, ns) => ∀ n ∈ ns, wfL n.l) (fun _ => .bool true)) := by
  refine sound_of Tryz.func3 rfl (enters_of Tryz.func3 (by kernel_rfl) (by kernel_rfl)) ?_
  rintro ⟨c, xss, ns⟩ hpre
  have hw : ∀ n ∈ ns, wfL n.l := hpre
  have hz := tdE_size xss ns
  by_cases hs : eSize xss ns ≤ 1048576
  · have hE := eP_of hs hw
    have hs' : xss.length + tot xss + (ns.length + ntot ns) ≤ 1048576 := hs
    have hz' : (tdE xss ns).1.length + tot (tdE xss ns).1 + ((tdE xss ns).2.length + ntot (tdE xss ns).2) ≤ 1000 := hz
    conv => whnf
    repeat' (first
      | ((first | refine markEX_call rfl rfl (by decide) rfl rfl (by omega) ?_ | refine plan_in (id := 10) [0, 1, 2, 3, 4] (by kernel_rfl) (by kernel_rfl) ?_ | refine aIf_t ?_ | refine aIf_f ?_ | refine aGet_in rfl ?_ | refine load_same ?_ | refine And.intro rfl (And.intro (List.cons_ne_nil _ _) ?_) | refine And.intro (Nat.le_of_ble_eq_true rfl) ?_ | refine callG_t ?_ | refine append_same ?_ | refine And.intro (pureL_ii _ _) ?_ | refine And.intro (pureL_nd _ _) ?_ | refine cut_ii rfl ?_ | refine cut_nd rfl ?_ | refine toExpr_call (by omega) ?_ | refine eqExpr_call trivial ?_ | refine szExpr_call (by omega) (fun _ _ => ?_) | refine cut_marksII rfl ?_ | refine cut_marksN rfl ?_ | refine heldExpr_call rfl rfl (by omega) ?_ | refine sTidy_call (by assumption) ?_ | refine iTidy_call (by assumption) ?_ | refine takeN_in ?_ | refine set_force ?_ | refine And.intro (by kernel_rfl) ?_); conv => whnf) | refine aIf_eqf ?_
      | refine aIf_not ?_ | ((first | refine aIf_beself ?_ | refine aIf_decself ?_); conv => whnf)
      | (refine aIf_dec (fun _ => ?_) (fun _ => ?_) <;> conv => whnf))
    all_goals (first | exact retS rfl rfl | (exfalso; omega))
  · skip
    conv => whnf
    repeat' (first
      | ((first | refine plan_in (id := 10) [0, 1, 2, 3, 4] (by kernel_rfl) (by kernel_rfl) ?_ | refine And.intro (by omega) ?_ | refine load_same ?_ | refine And.intro rfl (And.intro (List.cons_ne_nil _ _) ?_) | refine And.intro (Nat.le_of_ble_eq_true rfl) ?_ | refine callG_t ?_ | refine append_same ?_ | refine And.intro (pureL_ii _ _) ?_ | refine And.intro (pureL_nd _ _) ?_ | refine cut_ii rfl ?_ | refine cut_nd rfl ?_ | refine toExpr_call (by omega) ?_ | refine szExpr_call (by omega) (fun _ _ => ?_) | refine takeN_in ?_ | refine And.intro (by kernel_rfl) ?_); conv => whnf) | (refine aIf_dec (fun _ => ?_) (fun _ => ?_) <;> conv => whnf))
    all_goals (first | exact retS rfl rfl | (exfalso; omega))
set_option maxRecDepth 100000 in
theorem FnExactTidy_lifted (os : Os) (started : os.Started) (H : Type) (enc : TypeId × Value → H) :
    ReturnsInHanded {} Tryz.checked os 3 .any (Rows.fnExactTidySpec.pre6 enc Tryz.prog Tryz.f3 Rows.fnExactTidyRow.domain false) (Rows.fnExactTidySpec.post enc Tryz.prog Tryz.f3 false true false false) := by
  refine returnsInHanded_of_change (C := Tryz.checked) own_ started (by kernel_rfl) Tryz.func3
    (ChangeSpec.witness6 (enc := enc) (C := Tryz.checked) false ⟨#[], #[.agg #[.slice none 0 0, .slice none 0 0]], []⟩ 8 (by kernel_rfl) (by kernel_rfl) (by kernel_rfl) (by kernel_rfl)) ?_
  intro W base args ds gs before hval hW _ _
  refine law_postR (n := 6) law_FnExactTidy laid_ (by kernel_rfl) (by kernel_rfl) (tb := 4) (by kernel_rfl) (by kernel_rfl) rfl ?_ ?_ hval hW
  · intro ds hl
    (match ds, hl with | [d0], _ => exact ⟨rfl, rfl, rfl⟩)
  · intro avs hl h
    have hl' : avs.length = 1 := hl
    obtain ⟨a0, rfl, ha0⟩ := avs1 hl' (p := fun j av => ∀ t, Tryz.f3.params.toList[j]? = some t → ArgR Tryz.prog t av) (fun j av hj t ht => h j t av ht hj); obtain ⟨xss, ns, rfl, hw⟩ := argE (ha0 _ rfl); exact ⟨(1, xss, ns), rfl, rfl, hw, fun r ic news hp => hp.1⟩
theorem FnExactTidy_holds : Rows.FnExactTidySaid :=
  OpenClaim.holds_of_wide 3 Tryz.f3 rfl rfl rfl rfl rfl rfl rfl ⟨rfl, rfl, rfl, rfl, rfl⟩ rfl rfl rfl rfl rfl (by kernel_rfl) Tryz.func3
    (show joinedFacts Tryz.prog 3 Tryz.f3 Rows.fnExactTidySpec Rows.fnExactTidyRow = true by unfold joinedFacts; rw [whole_may, whole_lifts, whole_make]; kernel_rfl)
    (of_decide_eq_true (by kernel_rfl)) (by unfold Func.isWrapper; rw [if_neg (of_decide_eq_false (by kernel_rfl))]; exact ⟨rfl, rfl⟩)
    (fun os started H enc _ => FnExactTidy_lifted os started H enc)
end Go.Proofs.YtjmdhfjemaoebaaGreat
