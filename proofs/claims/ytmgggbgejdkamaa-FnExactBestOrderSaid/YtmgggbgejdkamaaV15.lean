/- Chapter 5: OrderOk and OrderCost of the model. -/
import Derived.Test.YtmgggbgejdkamaaV14
namespace Go.Proofs.Ytmgggbgejdkamaa
set_option maxRecDepth 20000
open Go.RowKit Go.Am
set_option linter.unusedSimpArgs false
attribute [local irreducible] aPlan aGet aIf aLoop aCall RetB NextB CallB CallG aCut aSet aAppend
theorem l5Order_call {c d e g : Nat} {zs o : List Int} {fs ps : List (List Int)} {env : List AV} {rows : List Row} {ctr low : Nat} {k : AV → St → Prop} (hpre : okP zs fs o) (h : k (.tup [.int .i64 (l5M (zs, fs, o) ps).1, .bool (l5M (zs, fs, o) ps).2]) ⟨env, rows, ctr + 1, low⟩) :
    CallB Try.prog 64 ⟨env, rows, ctr, low⟩ [.agg [.sl c zs.length (zs.map (.int .i64)), .sl d fs.length (fs.map (slI d)), .sl e o.length (o.map (.int .i64))], .sl g ps.length (ps.map (slI g))] k := callIB_in l5Order_sound ((c, zs, d, fs, e, o), g, ps) hpre h
theorem odP_iff {S : Sm} {ps : List (List Int)} (hs : sumP S.1 S.2.1 S.2.2) : (l5M S ps).2 = decide (odP S ps) := by
  by_cases h : orP S ps ps.length
  · rw [l5_t h]
    by_cases h1 : (orS S ps ps.length).2.1.length = 1
    · rw [decide_eq_true (p := odP S ps) ⟨hs, h, h1⟩]; exact decide_eq_true h1
    · rw [decide_eq_false (p := odP S ps) fun h' => h1 h'.2.2]; exact decide_eq_false h1
  · have e : l5M S ps = (0, false) := if_neg h
    rw [e, decide_eq_false (p := odP S ps) fun h' => h h'.2.1]
abbrev ISP := IS × Nat × List (List Int)
def sOrderOk : CSpec := fnS (ι := ISP) (fun | ((c, zs, d, fs, e, o), g, ps) => [.agg [.sl c zs.length (zs.map (.int .i64)), .sl d fs.length (fs.map (slI d)), .sl e o.length (o.map (.int .i64))], .sl g ps.length (ps.map (slI g))]) (fun _ => True) (fun | ((_, zs, _, fs, _, o), _, ps) => .bool (decide (odP (zs, fs, o) ps)))
def sOrderCost : CSpec := fnS (ι := ISP) (fun | ((c, zs, d, fs, e, o), g, ps) => [.agg [.sl c zs.length (zs.map (.int .i64)), .sl d fs.length (fs.map (slI d)), .sl e o.length (o.map (.int .i64))], .sl g ps.length (ps.map (slI g))]) (fun _ => True) (fun | ((_, zs, _, fs, _, o), _, ps) => .int .i64 (odC (zs, fs, o) ps))
theorem sOrderOk_sound : Sound Try.prog 17 sOrderOk := by
  refine sound_of Try.func17 rfl (enters_of Try.func17 (by kernel_rfl) (by kernel_rfl)) ?_
  rintro ⟨⟨c, zs, d, fs, e, o⟩, g, ps⟩ -
  by_cases hs : sumP zs fs o
  · have hok : okP zs fs o := okP_of hs
    conv => whnf
    repeat' (first
      | (refine aGet_in rfl ?_; conv => whnf)
      | (refine load_same ?_; conv => whnf)
      | (refine And.intro rfl (And.intro (List.cons_ne_nil _ _) ?_); conv => whnf)
      | (refine And.intro (Nat.le_of_ble_eq_true rfl) ?_; conv => whnf)
      | (refine callG_t ?_; conv => whnf)
      | (refine append_same ?_; conv => whnf)
      | (refine And.intro (pureL_ii _ _) ?_; conv => whnf)
      | (refine sSumOk_call trivial ?_; conv => whnf)
      | (refine l5Order_call (by assumption) ?_; conv => whnf)
      | (refine takeN_in ?_; conv => whnf)
      | (refine And.intro (pureL_ints _ _) ?_; conv => whnf)
      | (refine And.intro (by kernel_rfl) ?_; conv => whnf)
      | refine aIf_not ?_
      | (refine aIf_dec (fun _ => ?_) (fun _ => ?_) <;> conv => whnf))
    all_goals (first | contradiction | exact retS rfl (congrArg AV.bool (odP_iff (S := (zs, fs, o)) hs)))
  · conv => whnf
    repeat' (first
      | (refine load_same ?_; conv => whnf)
      | (refine And.intro rfl (And.intro (List.cons_ne_nil _ _) ?_); conv => whnf)
      | (refine And.intro (Nat.le_of_ble_eq_true rfl) ?_; conv => whnf)
      | (refine callG_t ?_; conv => whnf)
      | (refine append_same ?_; conv => whnf)
      | (refine And.intro (pureL_ii _ _) ?_; conv => whnf)
      | (refine sSumOk_call trivial ?_; conv => whnf)
      | (refine takeN_in ?_; conv => whnf)
      | (refine And.intro (pureL_ints _ _) ?_; conv => whnf)
      | (refine And.intro (by kernel_rfl) ?_; conv => whnf)
      | refine aIf_not ?_
      | (refine aIf_dec (fun _ => ?_) (fun _ => ?_) <;> conv => whnf))
    all_goals (first | contradiction | exact retS rfl (congrArg AV.bool (decide_eq_false (p := odP (zs, fs, o) ps) fun h => hs h.1).symm))
theorem sOrderOk_call {c d e g : Nat} {zs o : List Int} {fs ps : List (List Int)} {env : List AV} {rows : List Row} {ctr low : Nat} {k : AV → St → Prop} (hpre : True) (h : k (.bool (decide (odP (zs, fs, o) ps))) ⟨env, rows, ctr + 1, low⟩) :
    CallB Try.prog 17 ⟨env, rows, ctr, low⟩ [.agg [.sl c zs.length (zs.map (.int .i64)), .sl d fs.length (fs.map (slI d)), .sl e o.length (o.map (.int .i64))], .sl g ps.length (ps.map (slI g))] k := callS_in sOrderOk_sound ((c, zs, d, fs, e, o), g, ps) hpre rfl h
theorem sOrderCost_sound : Sound Try.prog 37 sOrderCost := by
  refine sound_of Try.func37 rfl (enters_of Try.func37 (by kernel_rfl) (by kernel_rfl)) ?_
  rintro ⟨⟨c, zs, d, fs, e, o⟩, g, ps⟩ -
  by_cases h : odP (zs, fs, o) ps
  · have hok : okP zs fs o := okP_of h.1
    conv => whnf
    repeat' (first
      | (refine aGet_in rfl ?_; conv => whnf)
      | (refine load_same ?_; conv => whnf)
      | (refine And.intro rfl (And.intro (List.cons_ne_nil _ _) ?_); conv => whnf)
      | (refine And.intro (Nat.le_of_ble_eq_true rfl) ?_; conv => whnf)
      | (refine callG_t ?_; conv => whnf)
      | (refine append_same ?_; conv => whnf)
      | (refine And.intro (pureL_ii _ _) ?_; conv => whnf)
      | (refine l5Order_call (by assumption) ?_; conv => whnf)
      | (refine sOrderOk_call trivial ?_; conv => whnf)
      | (refine takeN_in ?_; conv => whnf)
      | (refine And.intro (pureL_ints _ _) ?_; conv => whnf)
      | (refine And.intro (by kernel_rfl) ?_; conv => whnf)
      | refine aIf_not ?_
      | (refine aIf_dec (fun _ => ?_) (fun _ => ?_) <;> conv => whnf))
    all_goals (first | contradiction | exact retS rfl (int_eq ((congrArg Prod.fst (l5_t h.2.1)).trans (odC_t h).symm)))
  · conv => whnf
    repeat' (first
      | (refine load_same ?_; conv => whnf)
      | (refine And.intro rfl (And.intro (List.cons_ne_nil _ _) ?_); conv => whnf)
      | (refine And.intro (Nat.le_of_ble_eq_true rfl) ?_; conv => whnf)
      | (refine callG_t ?_; conv => whnf)
      | (refine append_same ?_; conv => whnf)
      | (refine And.intro (pureL_ii _ _) ?_; conv => whnf)
      | (refine sOrderOk_call trivial ?_; conv => whnf)
      | (refine takeN_in ?_; conv => whnf)
      | (refine And.intro (pureL_ints _ _) ?_; conv => whnf)
      | (refine And.intro (by kernel_rfl) ?_; conv => whnf)
      | refine aIf_not ?_
      | (refine aIf_dec (fun _ => ?_) (fun _ => ?_) <;> conv => whnf))
    all_goals (first | contradiction | exact retS rfl (int_eq (odC_f h).symm))
theorem sOrderCost_call {c d e g : Nat} {zs o : List Int} {fs ps : List (List Int)} {env : List AV} {rows : List Row} {ctr low : Nat} {k : AV → St → Prop} (hpre : True) (h : k (.int .i64 (odC (zs, fs, o) ps)) ⟨env, rows, ctr + 1, low⟩) :
    CallB Try.prog 37 ⟨env, rows, ctr, low⟩ [.agg [.sl c zs.length (zs.map (.int .i64)), .sl d fs.length (fs.map (slI d)), .sl e o.length (o.map (.int .i64))], .sl g ps.length (ps.map (slI g))] k := callS_in sOrderCost_sound ((c, zs, d, fs, e, o), g, ps) hpre rfl h
end Go.Proofs.Ytmgggbgejdkamaa
