import Derived.Test.YtpbenelmklggcaaM2x2
import Derived.Test.YtpbenelmklggcaaM2x3
/- Chapter 6: ChangeOk of both sides. -/
-- @slim getb_n
namespace Go.Proofs.Ytpbenelmklggcaa
set_option maxRecDepth 20000
open Go.RowKit Go.Am
set_option linter.unusedSimpArgs false
attribute [local irreducible] aPlan aGet aIf aLoop aCall RetB NextB CallB CallG aCut aSet aAppend
theorem l6Ok_sound : Sound Try.prog 19 (sOk fun ch => 0 ≤ ch ∧ ch ≤ 8) := by
  refine ⟨l6Ok_0.1, ?_⟩
  rintro ⟨c, xss, ns, ch, q⟩ ⟨h, hc⟩
  have hc : 0 ≤ ch ∧ ch ≤ 8 := hc
  rcases (show ch = 0 ∨ ch = 1 ∨ ch = 2 ∨ ch = 3 ∨ ch = 4 ∨ ch = 5 ∨ ch = 6 ∨ ch = 7 ∨ ch = 8 by omega) with e | e | e | e | e | e | e | e | e
  · exact l6Ok_0.2 (c, xss, ns, ch, q) ⟨h, e⟩
  · exact l6Ok_1.2 (c, xss, ns, ch, q) ⟨h, e⟩
  · exact l6Ok_2.2 (c, xss, ns, ch, q) ⟨h, e⟩
  · exact l6Ok_3.2 (c, xss, ns, ch, q) ⟨h, e⟩
  · exact l6Ok_4.2 (c, xss, ns, ch, q) ⟨h, e⟩
  · exact l6Ok_5.2 (c, xss, ns, ch, q) ⟨h, e⟩
  · exact l6Ok_6.2 (c, xss, ns, ch, q) ⟨h, e⟩
  · exact l6Ok_7.2 (c, xss, ns, ch, q) ⟨h, e⟩
  · exact l6Ok_8.2 (c, xss, ns, ch, q) ⟨h, e⟩
theorem l6Ok_call {c q : Nat} {ch : Int} {xss : List (List Int)} {ns : List Nd} {env : List AV} {rows : List Row} {ctr low : Nat} {k : AV → St → Prop} (hE : eP ns) (hM : (shM xss ns).2 = true) (hq : q < ns.length) (hc : 0 ≤ ch ∧ ch ≤ 8) (h : k (.bool (okC xss ns ch q)) ⟨env, rows, ctr + 1, low⟩) :
    CallB Try.prog 19 ⟨env, rows, ctr, low⟩ [.agg [.sl c xss.length (xss.map (slI c)), .sl c ns.length (ns.flatMap (ndC c))], .int .i64 ch, .int .i64 q] k := callS_in l6Ok_sound (c, xss, ns, ch, q) ⟨⟨hE, hM, hq⟩, hc⟩ rfl h
def okV (xss : List (List Int)) (ns : List Nd) (ch p : Int) : Bool := if (shM xss ns).2 = true ∧ 0 ≤ p ∧ p < ns.length then okC xss ns ch p.toNat else false
theorem okC_n {xss : List (List Int)} {ns : List Nd} {ch : Int} {p : Nat} (h : ¬ (0 ≤ ch ∧ ch ≤ 8)) : okC xss ns ch p = false := by
  rw [okC_s (by omega)]
  by_cases hz : pcN (ns.getD p default).op = 0
  · rw [cX_0 hz]; rfl
  · rw [cX_n hz (by omega)]; rfl
def sChangeOk : CSpec := fnS (ι := Nat × List (List Int) × List Nd × Int × Int) (fun | (c, xss, ns, ch, p) => [.agg [.sl c xss.length (xss.map (slI c)), .sl c ns.length (ns.flatMap (ndC c))], .int .i64 ch, .int .i64 p]) (fun | (_, _, ns, _, _) => eP ns) (fun | (_, xss, ns, ch, p) => .bool (okV xss ns ch p))
set_option maxHeartbeats 8000000 in
theorem sChangeOk_sound : Sound Try.prog 7 sChangeOk := by
  refine sound_of Try.func7 rfl (enters_of Try.func7 (by kernel_rfl) (by kernel_rfl)) ?_
  rintro ⟨c, xss, ns, ch, p⟩ hpre
  have hE : eP ns := hpre
  have hmax : maxLen = 9223372036854775807 := rfl
  cases hM : (shM xss ns).2 with
  | false =>
    have hv : okV xss ns ch p = false := if_neg fun h => Bool.false_ne_true (hM.symm.trans h.1)
    conv => whnf
    repeat' (first
      | (refine aIf_f ?_; conv => whnf)
      | (refine load_same ?_; conv => whnf)
      | (refine And.intro rfl (And.intro (List.cons_ne_nil _ _) ?_); conv => whnf)
      | (refine And.intro (Nat.le_of_ble_eq_true rfl) ?_; conv => whnf)
      | (refine callG_t ?_; conv => whnf)
      | (refine append_same ?_; conv => whnf)
      | (refine And.intro (pureL_ii _ _) ?_; conv => whnf)
      | (refine And.intro (pureL_nd _ _) ?_; conv => whnf)
      | (refine sExprOk_call (by first | omega | assumption | (refine ⟨?_, ?_⟩ <;> first | assumption | omega) | (refine ⟨?_, ?_, ?_⟩ <;> first | assumption | omega)) ?_; conv => whnf)
      | (refine takeN_in ?_; conv => whnf)
      | (refine And.intro (by kernel_rfl) ?_; conv => whnf)
      | (refine aIf_ff (by assumption) ?_; conv => whnf)
      | refine aIf_eqt ?_)
    exact retS rfl (congrArg AV.bool hv.symm)
  | true =>
    have h12 := (exI_of hM).n12
    have h1 := (exI_of hM).n1
    have hw : IntKind.i64.wrap ((ns.length : Int) - 1) = ns.length - 1 := IntWalk.i64_in _ (by omega)
    by_cases hp : 0 ≤ p ∧ p < ns.length
    · obtain ⟨q, rfl⟩ : ∃ q : Nat, p = q := ⟨p.toNat, by omega⟩
      have hv : okV xss ns ch q = okC xss ns ch q := (if_pos ⟨hM, hp⟩).trans (by rw [Int.toNat_natCast])
      by_cases hc : 0 ≤ ch ∧ ch ≤ 8
      · conv => whnf
        repeat' (first
          | (refine aIf_t ?_; conv => whnf)
          | (refine aIf_f ?_; conv => whnf)
          | (refine fun (_ : _ ≤ maxLen) => ?_; conv => whnf)
          | (refine aGet_in rfl ?_; conv => whnf)
          | (refine load_same ?_; conv => whnf)
          | (refine And.intro rfl (And.intro (List.cons_ne_nil _ _) ?_); conv => whnf)
          | (refine And.intro (Nat.le_of_ble_eq_true rfl) ?_; conv => whnf)
          | (refine callG_t ?_; conv => whnf)
          | (refine append_same ?_; conv => whnf)
          | (refine And.intro (pureL_ii _ _) ?_; conv => whnf)
          | (refine And.intro (pureL_nd _ _) ?_; conv => whnf)
          | (refine sExprOk_call (by first | omega | assumption | (refine ⟨?_, ?_⟩ <;> first | assumption | omega) | (refine ⟨?_, ?_, ?_⟩ <;> first | assumption | omega)) ?_; conv => whnf)
          | (refine l6Ok_call (by assumption) (by assumption) (by omega) (by omega) ?_; conv => whnf)
          | (refine takeN_in ?_; conv => whnf)
          | (refine in_call ?_; conv => whnf)
          | (refine And.intro (by kernel_rfl) ?_; conv => whnf)
          | (refine aIf_tt (by assumption) ?_; conv => whnf)
          | refine aIf_eqt ?_
          | (refine aIf_dec (fun _ => ?_) (fun _ => ?_) <;> conv => whnf))
        all_goals (first | (exfalso; omega) | contradiction | skip)
        all_goals exact retS rfl (congrArg AV.bool hv.symm)
      · have hv : okV xss ns ch q = false := hv.trans (okC_n hc)
        conv => whnf
        repeat' (first
          | (refine aIf_t ?_; conv => whnf)
          | (refine aIf_f ?_; conv => whnf)
          | (refine fun (_ : _ ≤ maxLen) => ?_; conv => whnf)
          | (refine aGet_in rfl ?_; conv => whnf)
          | (refine And.intro (by omega) ?_; conv => whnf)
          | (refine load_same ?_; conv => whnf)
          | (refine And.intro rfl (And.intro (List.cons_ne_nil _ _) ?_); conv => whnf)
          | (refine And.intro (Nat.le_of_ble_eq_true rfl) ?_; conv => whnf)
          | (refine callG_t ?_; conv => whnf)
          | (refine append_same ?_; conv => whnf)
          | (refine And.intro (pureL_ii _ _) ?_; conv => whnf)
          | (refine And.intro (pureL_nd _ _) ?_; conv => whnf)
          | (refine sExprOk_call (by first | omega | assumption | (refine ⟨?_, ?_⟩ <;> first | assumption | omega) | (refine ⟨?_, ?_, ?_⟩ <;> first | assumption | omega)) ?_; conv => whnf)
          | (refine l6Ok_call (by assumption) (by assumption) (by omega) (by omega) ?_; conv => whnf)
          | (refine takeN_in ?_; conv => whnf)
          | (refine in_call ?_; conv => whnf)
          | (refine And.intro (by kernel_rfl) ?_; conv => whnf)
          | (refine aIf_tt (by assumption) ?_; conv => whnf)
          | refine aIf_eqt ?_
          | (refine aIf_dec (fun _ => ?_) (fun _ => ?_) <;> conv => whnf))
        all_goals (first | (exfalso; omega) | contradiction | skip)
        all_goals exact retS rfl (congrArg AV.bool hv.symm)
    · have hv : okV xss ns ch p = false := if_neg fun h => hp h.2
      conv => whnf
      repeat' (first
        | (refine aIf_t ?_; conv => whnf)
        | (refine aIf_f ?_; conv => whnf)
        | (refine fun (_ : _ ≤ maxLen) => ?_; conv => whnf)
        | (refine aGet_in rfl ?_; conv => whnf)
        | (refine And.intro (by omega) ?_; conv => whnf)
        | (refine load_same ?_; conv => whnf)
        | (refine And.intro rfl (And.intro (List.cons_ne_nil _ _) ?_); conv => whnf)
        | (refine And.intro (Nat.le_of_ble_eq_true rfl) ?_; conv => whnf)
        | (refine callG_t ?_; conv => whnf)
        | (refine append_same ?_; conv => whnf)
        | (refine And.intro (pureL_ii _ _) ?_; conv => whnf)
        | (refine And.intro (pureL_nd _ _) ?_; conv => whnf)
        | (refine sExprOk_call (by first | omega | assumption | (refine ⟨?_, ?_⟩ <;> first | assumption | omega) | (refine ⟨?_, ?_, ?_⟩ <;> first | assumption | omega)) ?_; conv => whnf)
        | (refine takeN_in ?_; conv => whnf)
        | (refine in_call ?_; conv => whnf)
        | (refine And.intro (by kernel_rfl) ?_; conv => whnf)
        | (refine aIf_tt (by assumption) ?_; conv => whnf)
        | refine aIf_eqt ?_
        | (refine aIf_dec (fun _ => ?_) (fun _ => ?_) <;> conv => whnf))
      all_goals (first | (exfalso; omega) | contradiction | skip)
      all_goals exact retS rfl (congrArg AV.bool hv.symm)
set_option maxHeartbeats 8000000 in
theorem iChangeOk_sound : Sound Try.prog 9 sChangeOk := by
  refine sound_of Try.func9 rfl (enters_of Try.func9 (by kernel_rfl) (by kernel_rfl)) ?_
  rintro ⟨c, xss, ns, ch, p⟩ hpre
  have hE : eP ns := hpre
  have hmax : maxLen = 9223372036854775807 := rfl
  cases hM : (shM xss ns).2 with
  | false =>
    have hv : okV xss ns ch p = false := if_neg fun h => Bool.false_ne_true (hM.symm.trans h.1)
    conv => whnf
    repeat' (first
      | (refine aIf_t ?_; conv => whnf)
      | (refine aIf_f ?_; conv => whnf)
      | (refine aGet_in rfl ?_; conv => whnf)
      | (refine load_same ?_; conv => whnf)
      | (refine And.intro rfl (And.intro (List.cons_ne_nil _ _) ?_); conv => whnf)
      | (refine And.intro (Nat.le_of_ble_eq_true rfl) ?_; conv => whnf)
      | (refine callG_t ?_; conv => whnf)
      | (refine append_same ?_; conv => whnf)
      | (refine And.intro (pureL_ii _ _) ?_; conv => whnf)
      | (refine And.intro (pureL_nd _ _) ?_; conv => whnf)
      | (refine iShapesOf_call (by assumption) ?_; conv => whnf)
      | (refine takeN_in ?_; conv => whnf)
      | (refine And.intro (by kernel_rfl) ?_; conv => whnf)
      | (refine aIf_ff (by assumption) ?_; conv => whnf)
      | refine aIf_eqf ?_
      | refine aIf_not ?_)
    exact retS rfl (congrArg AV.bool hv.symm)
  | true =>
    have hX := exI_of hM
    have h12 := hX.n12
    have hnl := neL_len hM
    by_cases hp : 0 ≤ p ∧ p < ns.length
    · obtain ⟨q, rfl⟩ : ∃ q : Nat, p = q := ⟨p.toNat, by omega⟩
      have hv : okV xss ns ch q = okC xss ns ch q := (if_pos ⟨hM, hp⟩).trans (by rw [Int.toNat_natCast])
      by_cases hc : ch = 0
      · subst hc
        have hv : okV xss ns 0 q = !(neL xss ns).getD ((q : Int).toNat * 1) false := hv.trans (by rw [okC_0, Int.toNat_natCast, Nat.mul_one])
        conv => whnf
        repeat' (first
          | (refine aIf_t ?_; conv => whnf)
          | (refine aIf_f ?_; conv => whnf)
          | (refine fun (_ : _ ≤ maxLen) => ?_; conv => whnf)
          | (refine aGet_in rfl ?_; conv => whnf)
          | (refine And.intro (by omega) ?_; conv => whnf)
          | (refine load_same ?_; conv => whnf)
          | (refine And.intro rfl (And.intro (List.cons_ne_nil _ _) ?_); conv => whnf)
          | (refine And.intro (Nat.le_of_ble_eq_true rfl) ?_; conv => whnf)
          | (refine callG_t ?_; conv => whnf)
          | (refine indexOk_call trivial ?_; conv => whnf)
          | (refine append_same ?_; conv => whnf)
          | (refine And.intro (pureL_ii _ _) ?_; conv => whnf)
          | (refine And.intro (pureL_nd _ _) ?_; conv => whnf)
          | (refine getb_n (by omega) ?_; conv => whnf)
          | (refine iNeededOf_call (by assumption) ?_; conv => whnf)
          | (refine iShapesOf_call (by assumption) ?_; conv => whnf)
          | (refine takeN_in ?_; conv => whnf)
          | (refine And.intro (by kernel_rfl) ?_; conv => whnf)
          | (refine aIf_tt (by assumption) ?_; conv => whnf)
          | refine aIf_eqf ?_
          | refine aIf_not ?_
          | (refine aIf_dec (fun _ => ?_) (fun _ => ?_) <;> conv => whnf))
        all_goals (first | (exfalso; omega) | contradiction | skip)
        all_goals exact retS rfl (congrArg AV.bool hv.symm)
      · have hv : okV xss ns ch q = (cX ns (shM xss ns).1 ch q).isSome := hv.trans (okC_s hc)
        conv => whnf
        repeat' (first
          | (refine aIf_t ?_; conv => whnf)
          | (refine aIf_f ?_; conv => whnf)
          | (refine fun (_ : _ ≤ maxLen) => ?_; conv => whnf)
          | (refine aGet_in rfl ?_; conv => whnf)
          | (refine And.intro (by omega) ?_; conv => whnf)
          | (refine load_same ?_; conv => whnf)
          | (refine And.intro rfl (And.intro (List.cons_ne_nil _ _) ?_); conv => whnf)
          | (refine And.intro (Nat.le_of_ble_eq_true rfl) ?_; conv => whnf)
          | (refine callG_t ?_; conv => whnf)
          | (refine indexOk_call trivial ?_; conv => whnf)
          | (refine append_same ?_; conv => whnf)
          | (refine And.intro (pureL_ii _ _) ?_; conv => whnf)
          | (refine And.intro (pureL_nd _ _) ?_; conv => whnf)
          | (refine cut_ii rfl ?_; conv => whnf)
          | (refine getb_n (by omega) ?_; conv => whnf)
          | (refine iNeededOf_call (by assumption) ?_; conv => whnf)
          | (refine iShapesOf_call (by assumption) ?_; conv => whnf)
          | (refine nodeChanged_call (by assumption) (by omega) ?_; conv => whnf)
          | (refine takeN_in ?_; conv => whnf)
          | (refine And.intro (by kernel_rfl) ?_; conv => whnf)
          | (refine aIf_tt (by assumption) ?_; conv => whnf)
          | refine aIf_eqf ?_
          | refine aIf_not ?_
          | (refine aIf_dec (fun _ => ?_) (fun _ => ?_) <;> conv => whnf))
        all_goals (first | (exfalso; omega) | contradiction | skip)
        all_goals exact retS rfl (congrArg AV.bool hv.symm)
    · have hv : okV xss ns ch p = false := if_neg fun h => hp h.2
      conv => whnf
      repeat' (first
        | (refine aIf_t ?_; conv => whnf)
        | (refine aIf_f ?_; conv => whnf)
        | (refine fun (_ : _ ≤ maxLen) => ?_; conv => whnf)
        | (refine aGet_in rfl ?_; conv => whnf)
        | (refine And.intro (by omega) ?_; conv => whnf)
        | (refine load_same ?_; conv => whnf)
        | (refine And.intro rfl (And.intro (List.cons_ne_nil _ _) ?_); conv => whnf)
        | (refine And.intro (Nat.le_of_ble_eq_true rfl) ?_; conv => whnf)
        | (refine callG_t ?_; conv => whnf)
        | (refine indexOk_call trivial ?_; conv => whnf)
        | (refine append_same ?_; conv => whnf)
        | (refine And.intro (pureL_ii _ _) ?_; conv => whnf)
        | (refine And.intro (pureL_nd _ _) ?_; conv => whnf)
        | (refine cut_ii rfl ?_; conv => whnf)
        | (refine getb_n (by omega) ?_; conv => whnf)
        | (refine iNeededOf_call (by assumption) ?_; conv => whnf)
        | (refine iShapesOf_call (by assumption) ?_; conv => whnf)
        | (refine takeN_in ?_; conv => whnf)
        | (refine And.intro (by kernel_rfl) ?_; conv => whnf)
        | (refine aIf_tt (by assumption) ?_; conv => whnf)
        | refine aIf_eqf ?_
        | refine aIf_not ?_
        | (refine aIf_dec (fun _ => ?_) (fun _ => ?_) <;> conv => whnf))
      all_goals (first | (exfalso; omega) | contradiction | skip)
      all_goals exact retS rfl (congrArg AV.bool hv.symm)
theorem sChangeOk_call {c : Nat} {ch p : Int} {xss : List (List Int)} {ns : List Nd} {env : List AV} {rows : List Row} {ctr low : Nat} {k : AV → St → Prop} (hpre : eP ns) (h : k (.bool (okV xss ns ch p)) ⟨env, rows, ctr + 1, low⟩) :
    CallB Try.prog 7 ⟨env, rows, ctr, low⟩ [.agg [.sl c xss.length (xss.map (slI c)), .sl c ns.length (ns.flatMap (ndC c))], .int .i64 ch, .int .i64 p] k := callS_in sChangeOk_sound (c, xss, ns, ch, p) hpre rfl h
theorem iChangeOk_call {c : Nat} {ch p : Int} {xss : List (List Int)} {ns : List Nd} {env : List AV} {rows : List Row} {ctr low : Nat} {k : AV → St → Prop} (hpre : eP ns) (h : k (.bool (okV xss ns ch p)) ⟨env, rows, ctr + 1, low⟩) :
    CallB Try.prog 9 ⟨env, rows, ctr, low⟩ [.agg [.sl c xss.length (xss.map (slI c)), .sl c ns.length (ns.flatMap (ndC c))], .int .i64 ch, .int .i64 p] k := callS_in iChangeOk_sound (c, xss, ns, ch, p) hpre rfl h
end Go.Proofs.Ytpbenelmklggcaa
