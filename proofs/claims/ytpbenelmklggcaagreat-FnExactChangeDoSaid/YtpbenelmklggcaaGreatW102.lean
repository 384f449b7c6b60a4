import Derived.Test.YtpbenelmklggcaaGreatM12x3
import Derived.Test.YtpbenelmklggcaaGreatW101
import Derived.Test.YtpbenelmklggcaaGreatM012x23
import Derived.Test.YtpbenelmklggcaaGreatF0
namespace Go.Proofs.YtpbenelmklggcaaGreat
set_option maxRecDepth 20000
open Go.RowKit Go.Am Go.WideShapes Go.ChangeShapes
attribute [local irreducible] aPlan aGet aIf aLoop aCall RetB NextB CallB CallG aCut aSet aAppend
theorem tot_le3 : ∀ (L : List (List Int)), (∀ k, k < L.length → (L.getD k []).length ≤ 3) → tot L ≤ 3 * L.length
  | [], _ => Nat.le_refl _
  | x :: L, h => by
    have h1 := tot_le3 L fun k hk => by
      have := h (k + 1) (by simpa using hk)
      simpa using this
    have h0 : x.length ≤ 3 := by simpa using h 0 (by simp)
    have e : tot (x :: L) = x.length + tot L := by simp [tot]
    rw [e, List.length_cons]; omega
theorem ntot_le3 : ∀ (L : List Nd), (∀ k, k < L.length → (L.getD k default).l.length ≤ 3) → ntot L ≤ 3 * L.length
  | [], _ => Nat.le_refl _
  | x :: L, h => by
    have h1 := ntot_le3 L fun k hk => by
      have := h (k + 1) (by simpa using hk)
      simpa using this
    have h0 : x.l.length ≤ 3 := by simpa using h 0 (by simp)
    have e : ntot (x :: L) = x.l.length + ntot L := by simp [ntot]
    rw [e, List.length_cons]; omega
theorem cdO_sm {xss : List (List Int)} {ns L : List Nd} {ch p : Int} (h : cdO xss ns ch p = some L) : (xss.length ≤ 3 ∧ ∀ k, k < xss.length → (xss.getD k []).length ≤ 3) ∧ L.length ≤ 12 ∧ ∀ k, k < L.length → (L.getD k default).l.length ≤ 3 := by
  unfold cdO at h
  split at h
  · rename_i hc
    obtain ⟨hM, hp0, hpl⟩ := hc
    have hX := exI_of hM
    have h12 := hX.n12
    have hq : p.toNat < ns.length := by omega
    refine ⟨hX.ins3, ?_⟩
    split at h
    · split at h
      · injection h with h; subst h
        exact ⟨by have := dTo_le ns p.toNat ns.length; unfold dropN; omega, dTo_l (fun k hk => hX.l3 hk) _ (Nat.le_refl _)⟩
      · cases h
    · obtain ⟨n, hn, rfl⟩ := Option.map_eq_some_iff.1 h
      exact ⟨by rw [List.length_set]; exact h12, getD_set_l hq (hX.cX_l3 hq hn) (fun k hk => hX.l3 hk)⟩
  · cases h
theorem cdE_size (xss : List (List Int)) (ns : List Nd) (ch p : Int) : eSize (cdE xss ns ch p).1 (cdE xss ns ch p).2 ≤ 1000 := by
  cases e : cdO xss ns ch p with
  | none => rw [cdE_n e]; exact Nat.zero_le _
  | some L =>
    obtain ⟨⟨h1, h2⟩, h3, h4⟩ := cdO_sm e
    have h5 := tot_le3 xss h2
    have h6 := ntot_le3 L h4
    rw [cdE_s e]
    show xss.length + tot xss + (L.length + ntot L) ≤ 1000
    omega
set_option maxHeartbeats 8000000 in
theorem law_FnExactChangeDo : Sound Tryz.prog 3 (fnS (ι := Nat × List (List Int) × List Nd × Int × Int) (fun | (c, xss, ns, i0, i1) => [.agg [.sl c xss.length (xss.map (slI c)), .sl c ns.length (ns.flatMap (ndC c))], .int .i64 i0, .int .i64 i1]) (fun | (_, _, ns, _, _) => ∀ n ∈ ns, wfL n.l) (fun _ => .bool true)) := by
  refine sound_of Tryz.func3 rfl (enters_of Tryz.func3 (by kernel_rfl) (by kernel_rfl)) ?_
  rintro ⟨c, xss, ns, i0, i1⟩ hpre
  have hw : ∀ n ∈ ns, wfL n.l := hpre
  have hz := cdE_size xss ns i0 i1
  by_cases hs : eSize xss ns ≤ 1048576
  · have hE := eP_of hs hw
    have hs' : xss.length + tot xss + (ns.length + ntot ns) ≤ 1048576 := hs
    have hz' : (cdE xss ns i0 i1).1.length + tot (cdE xss ns i0 i1).1 + ((cdE xss ns i0 i1).2.length + ntot (cdE xss ns i0 i1).2) ≤ 1000 := hz
    conv => whnf
    repeat' (first
      | ((first | refine markEX_call rfl rfl (by decide) rfl rfl (by omega) ?_ | refine plan_in (id := 10) [0, 1, 2, 3, 4] (by kernel_rfl) (by kernel_rfl) ?_ | refine aIf_t ?_ | refine aIf_f ?_ | refine aGet_in rfl ?_ | refine load_same ?_ | refine And.intro rfl (And.intro (List.cons_ne_nil _ _) ?_) | refine And.intro (Nat.le_of_ble_eq_true rfl) ?_ | refine callG_t ?_ | refine append_same ?_ | refine And.intro (pureL_ii _ _) ?_ | refine And.intro (pureL_nd _ _) ?_ | refine cut_ii rfl ?_ | refine cut_nd rfl ?_ | refine toExpr_call (by omega) ?_ | refine eqExpr_call trivial ?_ | refine szExpr_call (by omega) (fun _ _ => ?_) | refine cut_marksII rfl ?_ | refine cut_marksN rfl ?_ | refine heldExpr_call rfl rfl (by omega) ?_ | refine iChangeDo_call (by assumption) ?_ | refine sChangeDo_call (by assumption) ?_ | refine takeN_in ?_ | refine set_force ?_ | refine And.intro (by kernel_rfl) ?_); conv => whnf) | refine aIf_eqf ?_
      | refine aIf_not ?_ | ((first | refine aIf_beself ?_ | refine aIf_decself ?_); conv => whnf)
      | (refine aIf_dec (fun _ => ?_) (fun _ => ?_) <;> conv => whnf))
    all_goals (first | exact retS rfl rfl | (exfalso; omega))
  · skip
    conv => whnf
    repeat' (first
      | ((first | refine plan_in (id := 10) [0, 1, 2, 3, 4] (by kernel_rfl) (by kernel_rfl) ?_ | refine And.intro (by omega) ?_ | refine load_same ?_ | refine And.intro rfl (And.intro (List.cons_ne_nil _ _) ?_) | refine And.intro (Nat.le_of_ble_eq_true rfl) ?_ | refine callG_t ?_ | refine append_same ?_ | refine And.intro (pureL_ii _ _) ?_ | refine And.intro (pureL_nd _ _) ?_ | refine cut_ii rfl ?_ | refine cut_nd rfl ?_ | refine toExpr_call (by omega) ?_ | refine szExpr_call (by omega) (fun _ _ => ?_) | refine takeN_in ?_ | refine And.intro (by kernel_rfl) ?_); conv => whnf) | (refine aIf_dec (fun _ => ?_) (fun _ => ?_) <;> conv => whnf))
    all_goals (first | exact retS rfl rfl | (exfalso; omega))
set_option maxRecDepth 100000 in
theorem FnExactChangeDo_lifted (os : Os) (started : os.Started) (H : Type) (enc : TypeId × Value → H) :
    ReturnsInHanded {} Tryz.checked os 3 .any (Rows.fnExactChangeDoSpec.pre6 enc Tryz.prog Tryz.f3 Rows.fnExactChangeDoRow.domain false) (Rows.fnExactChangeDoSpec.post enc Tryz.prog Tryz.f3 false true false false) := by
  refine returnsInHanded_of_change (C := Tryz.checked) own_ started (by kernel_rfl) Tryz.func3
    (ChangeSpec.witness6 (enc := enc) (C := Tryz.checked) false ⟨#[], #[.agg #[.slice none 0 0, .slice none 0 0], .int .i64 0, .int .i64 0], []⟩ 8 (by kernel_rfl) (by kernel_rfl) (by kernel_rfl) (by kernel_rfl)) ?_
  intro W base args ds gs before hval hW _ _
  refine law_postR (n := 6) law_FnExactChangeDo laid_ (by kernel_rfl) (by kernel_rfl) (tb := 4) (by kernel_rfl) (by kernel_rfl) rfl ?_ ?_ hval hW
  · intro ds hl
    (match ds, hl with | [d0, d1, d2], _ => exact ⟨rfl, rfl, rfl⟩)
  · intro avs hl h
    have hl' : avs.length = 3 := hl
    obtain ⟨a0, a1, a2, rfl, ha0, ha1, ha2⟩ := avs3 hl' (p := fun j av => ∀ t, Tryz.f3.params.toList[j]? = some t → ArgR Tryz.prog t av) (fun j av hj t ht => h j t av ht hj); obtain ⟨xss, ns, rfl, hw⟩ := argE (ha0 _ rfl); obtain ⟨i0, rfl, _⟩ := argI (ha1 _ rfl); obtain ⟨i1, rfl, _⟩ := argI (ha2 _ rfl); exact ⟨(1, xss, ns, i0, i1), rfl, rfl, hw, fun r ic news hp => hp.1⟩
theorem FnExactChangeDo_holds : Rows.FnExactChangeDoSaid :=
  OpenClaim.holds_of_wide 3 Tryz.f3 rfl rfl rfl rfl rfl rfl rfl ⟨rfl, rfl, rfl, rfl, rfl⟩ rfl rfl rfl rfl rfl (by kernel_rfl) Tryz.func3
    (show joinedFacts Tryz.prog 3 Tryz.f3 Rows.fnExactChangeDoSpec Rows.fnExactChangeDoRow = true by unfold joinedFacts; rw [whole_may, whole_lifts, whole_make]; kernel_rfl)
    (of_decide_eq_true (by kernel_rfl)) (by unfold Func.isWrapper; rw [if_neg (of_decide_eq_false (by kernel_rfl))]; exact ⟨rfl, rfl⟩)
    (fun os started H enc _ => FnExactChangeDo_lifted os started H enc)
end Go.Proofs.YtpbenelmklggcaaGreat
