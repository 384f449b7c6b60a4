import Derived.Test.YtjmdhfjemaoebaaGreatM01x25
import Derived.Test.YtjmdhfjemaoebaaGreatM01x26
namespace Go.Proofs.YtjmdhfjemaoebaaGreat
set_option maxRecDepth 20000
open Go.RowKit Go.Am
set_option linter.unusedSimpArgs false
attribute [local irreducible] aPlan aGet aIf aLoop aCall RetB NextB CallB CallG aCut aSet aAppend
abbrev l3P (p : Int → Prop) : CSpec := fnLB (ι := Nat × Nd × Nat × List (List Int) × Nat × List (List Int)) 3 (fun | (c, x, d, ss, e, ins) => [.agg [.int .i64 x.op, .int .i64 x.a, .int .i64 x.b, .sl c x.l.length (x.l.map (.int .i64))], .sl d ss.length (ss.map (slI d)), .sl e ins.length (ins.map (slI e))]) (fun | (_, x, _, ss, _, ins) => (formP x ss.length ins.length ∧ allOk ss ∧ allOk ins ∧ x.l.length ≤ 1048576) ∧ p x.op) (fun | (_, x, _, ss, _, ins) => spL x ss ins) (fun | (_, x, _, ss, _, _) => decide (kOk x ss))
set_option maxHeartbeats 8000000 in
theorem l3Shape_0 : Sound Tryz.prog 96 (l3P (fun op => op = 0)) := by
  refine sound_of Tryz.func96 rfl (enters_of Tryz.func96 (by kernel_rfl) (by kernel_rfl)) ?_
  rintro ⟨c, x, d, ss, e, ins⟩ hpre
  have hpre : (formP x ss.length ins.length ∧ allOk ss ∧ allOk ins ∧ x.l.length ≤ 1048576) ∧ (fun op : Int => op = 0) x.op := hpre
  obtain ⟨⟨⟨f1, f2, f3, f4, f5, f6, f7⟩, hss, hins, hxl⟩, hop⟩ := hpre
  have hop : (fun op : Int => op = 0) x.op := hop
  dsimp only at hop
  unfold lsP at f2
  have hmax : maxLen = 9223372036854775807 := rfl
  have t0 : Int.toNat 0 = 0 := rfl
  have t1 : Int.toNat 1 = 1 := rfl
  have t2 : Int.toNat 2 = 2 := rfl
  have hI := hins x.a.toNat (by omega)
  have hI3 := ((shapeOk_iff _).1 hI).1
  conv => whnf
  repeat' (first
    | ((first | refine plan_in (id := 17) [0, 1, 3, 4, 6, 2, 5, 7, 8, 9, 10] (by kernel_rfl) (by kernel_rfl) ?_ | refine plan_in (id := 23) [0, 1, 2, 3, 4, 5, 6, 7, 8, 9, 10, 11, 12, 13, 14, 15, 16] (by kernel_rfl) (by kernel_rfl) ?_ | refine plan_in (id := 25) [0, 1, 2, 3, 4, 5, 6, 7, 8] (by kernel_rfl) (by kernel_rfl) ?_ | refine aIf_t ?_ | refine aIf_f ?_ | refine fun (_ : _ ≤ maxLen) => ?_ | refine get_nat (by omega) ?_ | refine aGet_in rfl ?_ | refine And.intro (by omega) ?_ | refine And.intro rfl (And.intro (List.cons_ne_nil _ _) ?_) | refine callG_t ?_ | refine l2Nums_call (by omega) ?_ | refine append_same ?_ | refine get_ii_n (by omega) ?_ | refine get_ii (by omega) ?_); conv => whnf) | (refine l3CutShape_call (by first | omega | assumption | (refine ⟨?_, ?_⟩ <;> first | assumption | omega) | (refine ⟨?_, ?_, ?_⟩ <;> first | assumption | omega)) ?_; conv => whnf) | (refine l2Without_calli (by omega) ?_; conv => whnf) | (refine l2BesideShape_call (by first | omega | assumption | (refine ⟨?_, ?_⟩ <;> first | assumption | omega) | (refine ⟨?_, ?_, ?_⟩ <;> first | assumption | omega)) ?_; conv => whnf) | ((first | refine And.intro (pureL_ints _ _) ?_ | refine in_call ?_ | refine l1Count_call ?_ | refine sCountOf_call ?_ | refine sTurnShape_call (by omega) ?_); conv => whnf) | refine aIf_eqf ?_
    | refine aIf_not ?_ | (refine aIf_dec (fun _ => ?_) (fun _ => ?_) <;> conv => whnf))
  all_goals (first | (exfalso; omega) | skip)
  all_goals exact retLBM (zs := ins.getD x.a.toNat []) (by simp [spL, kL, hop]) (decide_eq_true (.inl (by omega))) rfl rfl
set_option maxHeartbeats 8000000 in
theorem l3Shape_1 : Sound Tryz.prog 96 (l3P (fun op => op = 1)) := by
  refine sound_of Tryz.func96 rfl (enters_of Tryz.func96 (by kernel_rfl) (by kernel_rfl)) ?_
  rintro ⟨c, x, d, ss, e, ins⟩ hpre
  have hpre : (formP x ss.length ins.length ∧ allOk ss ∧ allOk ins ∧ x.l.length ≤ 1048576) ∧ (fun op : Int => op = 1) x.op := hpre
  obtain ⟨⟨⟨f1, f2, f3, f4, f5, f6, f7⟩, hss, hins, hxl⟩, hop⟩ := hpre
  have hop : (fun op : Int => op = 1) x.op := hop
  dsimp only at hop
  unfold lsP at f2
  have hmax : maxLen = 9223372036854775807 := rfl
  have t0 : Int.toNat 0 = 0 := rfl
  have t1 : Int.toNat 1 = 1 := rfl
  have t2 : Int.toNat 2 = 2 := rfl
  conv => whnf
  repeat' (first
    | ((first | refine plan_in (id := 17) [0, 1, 3, 4, 6, 2, 5, 7, 8, 9, 10] (by kernel_rfl) (by kernel_rfl) ?_ | refine plan_in (id := 23) [0, 1, 2, 3, 4, 5, 6, 7, 8, 9, 10, 11, 12, 13, 14, 15, 16] (by kernel_rfl) (by kernel_rfl) ?_ | refine plan_in (id := 25) [0, 1, 2, 3, 4, 5, 6, 7, 8] (by kernel_rfl) (by kernel_rfl) ?_ | refine aIf_t ?_ | refine aIf_f ?_ | refine fun (_ : _ ≤ maxLen) => ?_ | refine get_nat (by omega) ?_ | refine aGet_in rfl ?_ | refine And.intro (by omega) ?_ | refine And.intro rfl (And.intro (List.cons_ne_nil _ _) ?_) | refine callG_t ?_ | refine l2Nums_call (by omega) ?_ | refine append_same ?_ | refine get_ii_n (by omega) ?_); conv => whnf) | (refine l3CutShape_call (by first | omega | assumption | (refine ⟨?_, ?_⟩ <;> first | assumption | omega) | (refine ⟨?_, ?_, ?_⟩ <;> first | assumption | omega)) ?_; conv => whnf) | (refine l2Without_calli (by omega) ?_; conv => whnf) | (refine l2BesideShape_call (by first | omega | assumption | (refine ⟨?_, ?_⟩ <;> first | assumption | omega) | (refine ⟨?_, ?_, ?_⟩ <;> first | assumption | omega)) ?_; conv => whnf) | ((first | refine in_call ?_ | refine l1Count_call ?_ | refine sCountOf_call ?_ | refine sTurnShape_call (by omega) ?_ | refine And.intro (And.intro (by kernel_rfl) (And.intro rfl (Nat.le_of_ble_eq_true rfl))) ?_); conv => whnf) | refine aIf_eqf ?_
    | refine aIf_not ?_ | (refine aIf_dec (fun _ => ?_) (fun _ => ?_) <;> conv => whnf))
  all_goals (first | (exfalso; omega) | skip)
  all_goals exact retLBM (zs := []) (by simp [spL, kL, hop]) (decide_eq_true (.inl (by omega))) rfl rfl
set_option maxHeartbeats 8000000 in
theorem l3Shape_6 : Sound Tryz.prog 96 (l3P (fun op => op = 6)) := by
  refine sound_of Tryz.func96 rfl (enters_of Tryz.func96 (by kernel_rfl) (by kernel_rfl)) ?_
  rintro ⟨c, x, d, ss, e, ins⟩ hpre
  have hpre : (formP x ss.length ins.length ∧ allOk ss ∧ allOk ins ∧ x.l.length ≤ 1048576) ∧ (fun op : Int => op = 6) x.op := hpre
  obtain ⟨⟨⟨f1, f2, f3, f4, f5, f6, f7⟩, hss, hins, hxl⟩, hop⟩ := hpre
  have hop : (fun op : Int => op = 6) x.op := hop
  dsimp only at hop
  unfold lsP at f2
  have hmax : maxLen = 9223372036854775807 := rfl
  have t0 : Int.toNat 0 = 0 := rfl
  have t1 : Int.toNat 1 = 1 := rfl
  have t2 : Int.toNat 2 = 2 := rfl
  have hA : shapeOk (ss.getD x.a.toNat []) = true := hss x.a.toNat (by omega)
  have hA3 := ((shapeOk_iff _).1 hA).1
  have w1 : IntKind.i64.wrap (((ss.getD x.a.toNat []).length : Int) - 1) = (ss.getD x.a.toNat []).length - 1 := IntWalk.i64_in _ (by omega)
  conv => whnf
  repeat' (first
    | ((first | refine plan_in (id := 17) [0, 1, 3, 4, 6, 2, 5, 7, 8, 9, 10] (by kernel_rfl) (by kernel_rfl) ?_ | refine plan_in (id := 23) [0, 1, 2, 3, 4, 5, 6, 7, 8, 9, 10, 11, 12, 13, 14, 15, 16] (by kernel_rfl) (by kernel_rfl) ?_ | refine plan_in (id := 25) [0, 1, 2, 3, 4, 5, 6, 7, 8] (by kernel_rfl) (by kernel_rfl) ?_ | refine aIf_t ?_ | refine aIf_f ?_ | refine fun (_ : _ ≤ maxLen) => ?_ | refine get_nat (by omega) ?_ | refine aGet_in rfl ?_ | refine And.intro (by omega) ?_ | refine And.intro rfl (And.intro (List.cons_ne_nil _ _) ?_) | refine callG_t ?_ | refine l2Nums_call (by omega) ?_ | refine append_same ?_ | refine get_ii_n (by omega) ?_ | refine get_ii (by omega) ?_); conv => whnf) | (refine l3CutShape_call (by first | omega | assumption | (refine ⟨?_, ?_⟩ <;> first | assumption | omega) | (refine ⟨?_, ?_, ?_⟩ <;> first | assumption | omega)) ?_; conv => whnf) | (refine l2Without_calli (by omega) ?_; conv => whnf) | (refine l2BesideShape_call (by first | omega | assumption | (refine ⟨?_, ?_⟩ <;> first | assumption | omega) | (refine ⟨?_, ?_, ?_⟩ <;> first | assumption | omega)) ?_; conv => whnf) | ((first | refine And.intro (pureL_ints _ _) ?_ | refine in_call ?_ | refine l1Count_call ?_ | refine sCountOf_call ?_ | refine sTurnShape_call (by omega) ?_); conv => whnf) | refine aIf_eqf ?_
    | refine aIf_not ?_ | (refine aIf_dec (fun _ => ?_) (fun _ => ?_) <;> conv => whnf))
  all_goals (first | (exfalso; omega) | skip)
  all_goals exact retLBM (zs := (ss.getD x.a.toNat [])) (by simp [spL, kL, hop]) (decide_eq_true (.inr (.inl hop))) rfl rfl
end Go.Proofs.YtjmdhfjemaoebaaGreat
namespace Go.Proofs.YtjmdhfjemaoebaaGreat
set_option maxRecDepth 20000
open Go.RowKit Go.Am
set_option linter.unusedSimpArgs false
attribute [local irreducible] aPlan aGet aIf aLoop aCall RetB NextB CallB CallG aCut aSet aAppend
set_option maxHeartbeats 8000000 in
theorem l3Shape_7 : Sound Tryz.prog 96 (l3P (fun op => op = 7)) := by
  refine sound_of Tryz.func96 rfl (enters_of Tryz.func96 (by kernel_rfl) (by kernel_rfl)) ?_
  rintro ⟨c, x, d, ss, e, ins⟩ hpre
  have hpre : (formP x ss.length ins.length ∧ allOk ss ∧ allOk ins ∧ x.l.length ≤ 1048576) ∧ (fun op : Int => op = 7) x.op := hpre
  obtain ⟨⟨⟨f1, f2, f3, f4, f5, f6, f7⟩, hss, hins, hxl⟩, hop⟩ := hpre
  have hop : (fun op : Int => op = 7) x.op := hop
  dsimp only at hop
  unfold lsP at f2
  have hmax : maxLen = 9223372036854775807 := rfl
  have t0 : Int.toNat 0 = 0 := rfl
  have t1 : Int.toNat 1 = 1 := rfl
  have t2 : Int.toNat 2 = 2 := rfl
  have hA : shapeOk (ss.getD x.a.toNat []) = true := hss x.a.toNat (by omega)
  have hA3 := ((shapeOk_iff _).1 hA).1
  have w1 : IntKind.i64.wrap (((ss.getD x.a.toNat []).length : Int) - 1) = (ss.getD x.a.toNat []).length - 1 := IntWalk.i64_in _ (by omega)
  have hl : x.l.length = 1 := by omega
  by_cases hi : 0 ≤ (x.l.getD (Int.toNat 0) 0) ∧ (x.l.getD (Int.toNat 0) 0) < (ss.getD x.a.toNat []).length
  · have hk : kOk x ss := .inr (.inr (.inr (.inl ⟨hop, hi⟩)))
    have h1 : spL x ss ins = wo (ss.getD x.a.toNat []) (x.l.getD (Int.toNat 0) 0).toNat := by rw [spL_ok hk]; simp [kL, hop]
    have h2 : decide (kOk x ss) = true := decide_eq_true hk
    conv => whnf
    repeat' (first
      | ((first | refine plan_in (id := 17) [0, 1, 3, 4, 6, 2, 5, 7, 8, 9, 10] (by kernel_rfl) (by kernel_rfl) ?_ | refine plan_in (id := 23) [0, 1, 2, 3, 4, 5, 6, 7, 8, 9, 10, 11, 12, 13, 14, 15, 16] (by kernel_rfl) (by kernel_rfl) ?_ | refine plan_in (id := 25) [0, 1, 2, 3, 4, 5, 6, 7, 8] (by kernel_rfl) (by kernel_rfl) ?_ | refine aIf_t ?_ | refine aIf_f ?_ | refine fun (_ : _ ≤ maxLen) => ?_ | refine get_nat (by omega) ?_ | refine get_int (by omega) ?_ | refine aGet_in rfl ?_ | refine And.intro (by omega) ?_ | refine And.intro rfl (And.intro (List.cons_ne_nil _ _) ?_) | refine callG_t ?_ | refine l2Nums_call (by omega) ?_ | refine append_same ?_ | refine get_ii_n (by omega) ?_ | refine get_ii (by omega) ?_); conv => whnf) | (refine l3CutShape_call (by first | omega | assumption | (refine ⟨?_, ?_⟩ <;> first | assumption | omega) | (refine ⟨?_, ?_, ?_⟩ <;> first | assumption | omega)) ?_; conv => whnf) | (refine l2Without_calli (by omega) ?_; conv => whnf) | (refine l2BesideShape_call (by first | omega | assumption | (refine ⟨?_, ?_⟩ <;> first | assumption | omega) | (refine ⟨?_, ?_, ?_⟩ <;> first | assumption | omega)) ?_; conv => whnf) | ((first | refine And.intro (pureL_ints _ _) ?_ | refine in_call ?_ | refine l1Count_call ?_ | refine sCountOf_call ?_ | refine sTurnShape_call (by omega) ?_); conv => whnf) | refine aIf_eqf ?_
      | refine aIf_not ?_ | (refine aIf_dec (fun _ => ?_) (fun _ => ?_) <;> conv => whnf))
    all_goals (first | (exfalso; omega) | skip)
    all_goals exact retLBM h1 h2 rfl rfl
  · have hk : ¬ kOk x ss := fun hk => by
      rcases hk with hk | hk | hk | hk | hk | hk | hk | hk | hk
      all_goals (first | omega | exact hi hk.2)
    have h1 : spL x ss ins = [] := by unfold spL; rw [if_pos ⟨.inl hop, hk⟩]
    have h2 : decide (kOk x ss) = false := decide_eq_false hk
    conv => whnf
    repeat' (first
      | ((first | refine plan_in (id := 17) [0, 1, 3, 4, 6, 2, 5, 7, 8, 9, 10] (by kernel_rfl) (by kernel_rfl) ?_ | refine plan_in (id := 23) [0, 1, 2, 3, 4, 5, 6, 7, 8, 9, 10, 11, 12, 13, 14, 15, 16] (by kernel_rfl) (by kernel_rfl) ?_ | refine plan_in (id := 25) [0, 1, 2, 3, 4, 5, 6, 7, 8] (by kernel_rfl) (by kernel_rfl) ?_ | refine aIf_t ?_ | refine aIf_f ?_ | refine fun (_ : _ ≤ maxLen) => ?_ | refine get_nat (by omega) ?_ | refine get_int (by omega) ?_ | refine aGet_in rfl ?_ | refine And.intro (by omega) ?_ | refine And.intro rfl (And.intro (List.cons_ne_nil _ _) ?_) | refine callG_t ?_ | refine l2Nums_call (by omega) ?_ | refine append_same ?_ | refine get_ii_n (by omega) ?_ | refine get_ii (by omega) ?_); conv => whnf) | (refine l3CutShape_call (by first | omega | assumption | (refine ⟨?_, ?_⟩ <;> first | assumption | omega) | (refine ⟨?_, ?_, ?_⟩ <;> first | assumption | omega)) ?_; conv => whnf) | (refine l2Without_calli (by omega) ?_; conv => whnf) | (refine l2BesideShape_call (by first | omega | assumption | (refine ⟨?_, ?_⟩ <;> first | assumption | omega) | (refine ⟨?_, ?_, ?_⟩ <;> first | assumption | omega)) ?_; conv => whnf) | ((first | refine in_call ?_ | refine l1Count_call ?_ | refine sCountOf_call ?_ | refine sTurnShape_call (by omega) ?_); conv => whnf) | refine aIf_eqf ?_
      | refine aIf_not ?_ | (refine aIf_dec (fun _ => ?_) (fun _ => ?_) <;> conv => whnf))
    all_goals (first | (exfalso; omega) | skip)
    all_goals exact retLBM h1 h2 rfl rfl
set_option maxHeartbeats 8000000 in
theorem l3Shape_8 : Sound Tryz.prog 96 (l3P (fun op => op = 8)) := by
  refine sound_of Tryz.func96 rfl (enters_of Tryz.func96 (by kernel_rfl) (by kernel_rfl)) ?_
  rintro ⟨c, x, d, ss, e, ins⟩ hpre
  have hpre : (formP x ss.length ins.length ∧ allOk ss ∧ allOk ins ∧ x.l.length ≤ 1048576) ∧ (fun op : Int => op = 8) x.op := hpre
  obtain ⟨⟨⟨f1, f2, f3, f4, f5, f6, f7⟩, hss, hins, hxl⟩, hop⟩ := hpre
  have hop : (fun op : Int => op = 8) x.op := hop
  dsimp only at hop
  unfold lsP at f2
  have hmax : maxLen = 9223372036854775807 := rfl
  have t0 : Int.toNat 0 = 0 := rfl
  have t1 : Int.toNat 1 = 1 := rfl
  have t2 : Int.toNat 2 = 2 := rfl
  have hA : shapeOk (ss.getD x.a.toNat []) = true := hss x.a.toNat (by omega)
  have hA3 := ((shapeOk_iff _).1 hA).1
  have w1 : IntKind.i64.wrap (((ss.getD x.a.toNat []).length : Int) - 1) = (ss.getD x.a.toNat []).length - 1 := IntWalk.i64_in _ (by omega)
  have h1 : spL x ss ins = tsL (ss.getD x.a.toNat []) x.l := by simp [spL, kL, hop]
  have h2 : decide (kOk x ss) = tsOk (ss.getD x.a.toNat []) x.l := by simp [kOk, hop]
  conv => whnf
  repeat' (first
    | ((first | refine plan_in (id := 17) [0, 1, 3, 4, 6, 2, 5, 7, 8, 9, 10] (by kernel_rfl) (by kernel_rfl) ?_ | refine plan_in (id := 23) [0, 1, 2, 3, 4, 5, 6, 7, 8, 9, 10, 11, 12, 13, 14, 15, 16] (by kernel_rfl) (by kernel_rfl) ?_ | refine plan_in (id := 25) [0, 1, 2, 3, 4, 5, 6, 7, 8] (by kernel_rfl) (by kernel_rfl) ?_ | refine aIf_t ?_ | refine aIf_f ?_ | refine fun (_ : _ ≤ maxLen) => ?_ | refine get_nat (by omega) ?_ | refine aGet_in rfl ?_ | refine And.intro (by omega) ?_ | refine And.intro rfl (And.intro (List.cons_ne_nil _ _) ?_) | refine callG_t ?_ | refine l2Nums_call (by omega) ?_ | refine append_same ?_ | refine get_ii_n (by omega) ?_ | refine get_ii (by omega) ?_); conv => whnf) | (refine l3CutShape_call (by first | omega | assumption | (refine ⟨?_, ?_⟩ <;> first | assumption | omega) | (refine ⟨?_, ?_, ?_⟩ <;> first | assumption | omega)) ?_; conv => whnf) | (refine l2Without_calli (by omega) ?_; conv => whnf) | (refine l2BesideShape_call (by first | omega | assumption | (refine ⟨?_, ?_⟩ <;> first | assumption | omega) | (refine ⟨?_, ?_, ?_⟩ <;> first | assumption | omega)) ?_; conv => whnf) | ((first | refine And.intro (pureL_ints _ _) ?_ | refine in_call ?_ | refine l1Count_call ?_ | refine sCountOf_call ?_ | refine sTurnShape_call (by omega) ?_); conv => whnf) | refine aIf_eqf ?_
    | refine aIf_not ?_ | (refine aIf_dec (fun _ => ?_) (fun _ => ?_) <;> conv => whnf))
  all_goals (first | (exfalso; omega) | skip)
  all_goals exact retLBM h1 h2 rfl rfl
end Go.Proofs.YtjmdhfjemaoebaaGreat
namespace Go.Proofs.YtjmdhfjemaoebaaGreat
set_option maxRecDepth 20000
open Go.RowKit Go.Am
set_option linter.unusedSimpArgs false
attribute [local irreducible] aPlan aGet aIf aLoop aCall RetB NextB CallB CallG aCut aSet aAppend
set_option maxHeartbeats 8000000 in
theorem l3Shape_9 : Sound Tryz.prog 96 (l3P (fun op => op = 9)) := by
  refine sound_of Tryz.func96 rfl (enters_of Tryz.func96 (by kernel_rfl) (by kernel_rfl)) ?_
  rintro ⟨c, x, d, ss, e, ins⟩ hpre
  have hpre : (formP x ss.length ins.length ∧ allOk ss ∧ allOk ins ∧ x.l.length ≤ 1048576) ∧ (fun op : Int => op = 9) x.op := hpre
  obtain ⟨⟨⟨f1, f2, f3, f4, f5, f6, f7⟩, hss, hins, hxl⟩, hop⟩ := hpre
  have hop : (fun op : Int => op = 9) x.op := hop
  dsimp only at hop
  unfold lsP at f2
  have hmax : maxLen = 9223372036854775807 := rfl
  have t0 : Int.toNat 0 = 0 := rfl
  have t1 : Int.toNat 1 = 1 := rfl
  have t2 : Int.toNat 2 = 2 := rfl
  have hA : shapeOk (ss.getD x.a.toNat []) = true := hss x.a.toNat (by omega)
  have hA3 := ((shapeOk_iff _).1 hA).1
  have w1 : IntKind.i64.wrap (((ss.getD x.a.toNat []).length : Int) - 1) = (ss.getD x.a.toNat []).length - 1 := IntWalk.i64_in _ (by omega)
  have h1 : spL x ss ins = x.l := by simp [spL, kL, hop]
  have h2 : decide (kOk x ss) = (countOf x.l == cntTo (ss.getD x.a.toNat []) (ss.getD x.a.toNat []).length) := Bool.eq_iff_iff.2 (by simp [kOk, hop])
  conv => whnf
  repeat' (first
    | ((first | refine plan_in (id := 17) [0, 1, 3, 4, 6, 2, 5, 7, 8, 9, 10] (by kernel_rfl) (by kernel_rfl) ?_ | refine plan_in (id := 23) [0, 1, 2, 3, 4, 5, 6, 7, 8, 9, 10, 11, 12, 13, 14, 15, 16] (by kernel_rfl) (by kernel_rfl) ?_ | refine plan_in (id := 25) [0, 1, 2, 3, 4, 5, 6, 7, 8] (by kernel_rfl) (by kernel_rfl) ?_ | refine aIf_t ?_ | refine aIf_f ?_ | refine fun (_ : _ ≤ maxLen) => ?_ | refine get_nat (by omega) ?_ | refine aGet_in rfl ?_ | refine And.intro (by omega) ?_ | refine And.intro rfl (And.intro (List.cons_ne_nil _ _) ?_) | refine callG_t ?_ | refine l2Nums_call (by omega) ?_ | refine append_same ?_ | refine get_ii_n (by omega) ?_ | refine get_ii (by omega) ?_); conv => whnf) | (refine l3CutShape_call (by first | omega | assumption | (refine ⟨?_, ?_⟩ <;> first | assumption | omega) | (refine ⟨?_, ?_, ?_⟩ <;> first | assumption | omega)) ?_; conv => whnf) | (refine l2Without_calli (by omega) ?_; conv => whnf) | (refine l2BesideShape_call (by first | omega | assumption | (refine ⟨?_, ?_⟩ <;> first | assumption | omega) | (refine ⟨?_, ?_, ?_⟩ <;> first | assumption | omega)) ?_; conv => whnf) | ((first | refine And.intro (pureL_ints _ _) ?_ | refine in_call ?_ | refine l1Count_call ?_ | refine sCountOf_call ?_ | refine sTurnShape_call (by omega) ?_); conv => whnf) | refine aIf_eqf ?_
    | refine aIf_not ?_ | (refine aIf_dec (fun _ => ?_) (fun _ => ?_) <;> conv => whnf))
  all_goals (first | (exfalso; omega) | skip)
  all_goals exact retLBM h1 h2 rfl rfl
set_option maxHeartbeats 8000000 in
theorem l3Shape_10 : Sound Tryz.prog 96 (l3P (fun op => op = 10)) := by
  refine sound_of Tryz.func96 rfl (enters_of Tryz.func96 (by kernel_rfl) (by kernel_rfl)) ?_
  rintro ⟨c, x, d, ss, e, ins⟩ hpre
  have hpre : (formP x ss.length ins.length ∧ allOk ss ∧ allOk ins ∧ x.l.length ≤ 1048576) ∧ (fun op : Int => op = 10) x.op := hpre
  obtain ⟨⟨⟨f1, f2, f3, f4, f5, f6, f7⟩, hss, hins, hxl⟩, hop⟩ := hpre
  have hop : (fun op : Int => op = 10) x.op := hop
  dsimp only at hop
  unfold lsP at f2
  have hmax : maxLen = 9223372036854775807 := rfl
  have t0 : Int.toNat 0 = 0 := rfl
  have t1 : Int.toNat 1 = 1 := rfl
  have t2 : Int.toNat 2 = 2 := rfl
  have hA : shapeOk (ss.getD x.a.toNat []) = true := hss x.a.toNat (by omega)
  have hA3 := ((shapeOk_iff _).1 hA).1
  have w1 : IntKind.i64.wrap (((ss.getD x.a.toNat []).length : Int) - 1) = (ss.getD x.a.toNat []).length - 1 := IntWalk.i64_in _ (by omega)
  have hl : x.l.length = 3 := by omega
  have h1 : spL x ss ins = cshL (ss.getD x.a.toNat []) x.l := by simp [spL, kL, hop]
  have h2 : decide (kOk x ss) = decide (cshP (ss.getD x.a.toNat []) x.l) := by simp [kOk, hop]
  conv => whnf
  repeat' (first
    | ((first | refine plan_in (id := 17) [0, 1, 3, 4, 6, 2, 5, 7, 8, 9, 10] (by kernel_rfl) (by kernel_rfl) ?_ | refine plan_in (id := 23) [0, 1, 2, 3, 4, 5, 6, 7, 8, 9, 10, 11, 12, 13, 14, 15, 16] (by kernel_rfl) (by kernel_rfl) ?_ | refine plan_in (id := 25) [0, 1, 2, 3, 4, 5, 6, 7, 8] (by kernel_rfl) (by kernel_rfl) ?_ | refine aIf_t ?_ | refine aIf_f ?_ | refine fun (_ : _ ≤ maxLen) => ?_ | refine get_nat (by omega) ?_ | refine aGet_in rfl ?_ | refine And.intro (by omega) ?_ | refine And.intro rfl (And.intro (List.cons_ne_nil _ _) ?_) | refine callG_t ?_ | refine l2Nums_call (by omega) ?_ | refine append_same ?_ | refine get_ii_n (by omega) ?_ | refine get_ii (by omega) ?_); conv => whnf) | (refine l3CutShape_call (by first | omega | assumption | (refine ⟨?_, ?_⟩ <;> first | assumption | omega) | (refine ⟨?_, ?_, ?_⟩ <;> first | assumption | omega)) ?_; conv => whnf) | (refine l2Without_calli (by omega) ?_; conv => whnf) | (refine l2BesideShape_call (by first | omega | assumption | (refine ⟨?_, ?_⟩ <;> first | assumption | omega) | (refine ⟨?_, ?_, ?_⟩ <;> first | assumption | omega)) ?_; conv => whnf) | ((first | refine And.intro (pureL_ints _ _) ?_ | refine in_call ?_ | refine l1Count_call ?_ | refine sCountOf_call ?_ | refine sTurnShape_call (by omega) ?_); conv => whnf) | refine aIf_eqf ?_
    | refine aIf_not ?_ | (refine aIf_dec (fun _ => ?_) (fun _ => ?_) <;> conv => whnf))
  all_goals (first | (exfalso; omega) | skip)
  all_goals exact retLBM h1 h2 rfl rfl
end Go.Proofs.YtjmdhfjemaoebaaGreat
namespace Go.Proofs.YtjmdhfjemaoebaaGreat
set_option maxRecDepth 20000
open Go.RowKit Go.Am
set_option linter.unusedSimpArgs false
attribute [local irreducible] aPlan aGet aIf aLoop aCall RetB NextB CallB CallG aCut aSet aAppend
set_option maxHeartbeats 8000000 in
theorem l3Shape_11 : Sound Tryz.prog 96 (l3P (fun op => op = 11)) := by
  refine sound_of Tryz.func96 rfl (enters_of Tryz.func96 (by kernel_rfl) (by kernel_rfl)) ?_
  rintro ⟨c, x, d, ss, e, ins⟩ hpre
  have hpre : (formP x ss.length ins.length ∧ allOk ss ∧ allOk ins ∧ x.l.length ≤ 1048576) ∧ (fun op : Int => op = 11) x.op := hpre
  obtain ⟨⟨⟨f1, f2, f3, f4, f5, f6, f7⟩, hss, hins, hxl⟩, hop⟩ := hpre
  have hop : (fun op : Int => op = 11) x.op := hop
  dsimp only at hop
  unfold lsP at f2
  have hmax : maxLen = 9223372036854775807 := rfl
  have t0 : Int.toNat 0 = 0 := rfl
  have t1 : Int.toNat 1 = 1 := rfl
  have t2 : Int.toNat 2 = 2 := rfl
  have hA : shapeOk (ss.getD x.a.toNat []) = true := hss x.a.toNat (by omega)
  have hA3 := ((shapeOk_iff _).1 hA).1
  have w1 : IntKind.i64.wrap (((ss.getD x.a.toNat []).length : Int) - 1) = (ss.getD x.a.toNat []).length - 1 := IntWalk.i64_in _ (by omega)
  have hB : shapeOk (ss.getD x.b.toNat []) = true := hss x.b.toNat (by omega)
  have hl : x.l.length = 1 := by omega
  have h1 : spL x ss ins = bshL (ss.getD x.a.toNat []) (ss.getD x.b.toNat []) (x.l.getD (Int.toNat 0) 0) := by simp [spL, kL, hop]
  have h2 : decide (kOk x ss) = decide (bshP (ss.getD x.a.toNat []) (ss.getD x.b.toNat []) (x.l.getD (Int.toNat 0) 0)) := by simp [kOk, hop]
  conv => whnf
  repeat' (first
    | ((first | refine plan_in (id := 17) [0, 1, 3, 4, 6, 2, 5, 7, 8, 9, 10] (by kernel_rfl) (by kernel_rfl) ?_ | refine plan_in (id := 23) [0, 1, 2, 3, 4, 5, 6, 7, 8, 9, 10, 11, 12, 13, 14, 15, 16] (by kernel_rfl) (by kernel_rfl) ?_ | refine plan_in (id := 25) [0, 1, 2, 3, 4, 5, 6, 7, 8] (by kernel_rfl) (by kernel_rfl) ?_ | refine aIf_t ?_ | refine aIf_f ?_ | refine fun (_ : _ ≤ maxLen) => ?_ | refine get_nat (by omega) ?_ | refine get_int (by omega) ?_ | refine aGet_in rfl ?_ | refine And.intro (by omega) ?_ | refine And.intro rfl (And.intro (List.cons_ne_nil _ _) ?_) | refine callG_t ?_ | refine l2Nums_call (by omega) ?_ | refine append_same ?_ | refine get_ii_n (by omega) ?_ | refine get_ii (by omega) ?_); conv => whnf) | (refine l3CutShape_call (by first | omega | assumption | (refine ⟨?_, ?_⟩ <;> first | assumption | omega) | (refine ⟨?_, ?_, ?_⟩ <;> first | assumption | omega)) ?_; conv => whnf) | (refine l2Without_calli (by omega) ?_; conv => whnf) | (refine l2BesideShape_call (by first | omega | assumption | (refine ⟨?_, ?_⟩ <;> first | assumption | omega) | (refine ⟨?_, ?_, ?_⟩ <;> first | assumption | omega)) ?_; conv => whnf) | ((first | refine And.intro (pureL_ints _ _) ?_ | refine in_call ?_ | refine l1Count_call ?_ | refine sCountOf_call ?_ | refine l1Join_call (And.intro (by assumption) (by assumption)) ?_ | refine sTurnShape_call (by omega) ?_); conv => whnf) | refine aIf_eqf ?_
    | refine aIf_not ?_ | (refine aIf_dec (fun _ => ?_) (fun _ => ?_) <;> conv => whnf))
  all_goals (first | (exfalso; omega) | skip)
  all_goals exact retLBM h1 h2 rfl rfl
set_option maxHeartbeats 8000000 in
theorem l3Shape_12 : Sound Tryz.prog 96 (l3P (fun op => op = 12)) := by
  refine sound_of Tryz.func96 rfl (enters_of Tryz.func96 (by kernel_rfl) (by kernel_rfl)) ?_
  rintro ⟨c, x, d, ss, e, ins⟩ hpre
  have hpre : (formP x ss.length ins.length ∧ allOk ss ∧ allOk ins ∧ x.l.length ≤ 1048576) ∧ (fun op : Int => op = 12) x.op := hpre
  obtain ⟨⟨⟨f1, f2, f3, f4, f5, f6, f7⟩, hss, hins, hxl⟩, hop⟩ := hpre
  have hop : (fun op : Int => op = 12) x.op := hop
  dsimp only at hop
  unfold lsP at f2
  have hmax : maxLen = 9223372036854775807 := rfl
  have t0 : Int.toNat 0 = 0 := rfl
  have t1 : Int.toNat 1 = 1 := rfl
  have t2 : Int.toNat 2 = 2 := rfl
  have hA : shapeOk (ss.getD x.a.toNat []) = true := hss x.a.toNat (by omega)
  have hA3 := ((shapeOk_iff _).1 hA).1
  have w1 : IntKind.i64.wrap (((ss.getD x.a.toNat []).length : Int) - 1) = (ss.getD x.a.toNat []).length - 1 := IntWalk.i64_in _ (by omega)
  have hB : shapeOk (ss.getD x.b.toNat []) = true := hss x.b.toNat (by omega)
  by_cases hi : (ss.getD x.a.toNat []).length = 2 ∧ (ss.getD x.b.toNat []).length = 2 ∧ (ss.getD x.a.toNat []).getD (Int.toNat 1) 0 = (ss.getD x.b.toNat []).getD (Int.toNat 0) 0
  · have hk : kOk x ss := .inr (.inr (.inr (.inr (.inr (.inr (.inr (.inr ⟨hop, hi⟩)))))))
    have h1 : spL x ss ins = [(ss.getD x.a.toNat []).getD (Int.toNat 0) 0, (ss.getD x.b.toNat []).getD (Int.toNat 1) 0] := by rw [spL_ok hk]; simp [kL, hop]
    have h2 : decide (kOk x ss) = true := decide_eq_true hk
    conv => whnf
    repeat' (first
      | ((first | refine plan_in (id := 17) [0, 1, 3, 4, 6, 2, 5, 7, 8, 9, 10] (by kernel_rfl) (by kernel_rfl) ?_ | refine plan_in (id := 23) [0, 1, 2, 3, 4, 5, 6, 7, 8, 9, 10, 11, 12, 13, 14, 15, 16] (by kernel_rfl) (by kernel_rfl) ?_ | refine plan_in (id := 25) [0, 1, 2, 3, 4, 5, 6, 7, 8] (by kernel_rfl) (by kernel_rfl) ?_ | refine aIf_t ?_ | refine aIf_f ?_ | refine fun (_ : _ ≤ maxLen) => ?_ | refine get_nat (by omega) ?_ | refine get_int (by omega) ?_ | refine aGet_in rfl ?_ | refine And.intro (by omega) ?_ | refine And.intro rfl (And.intro (List.cons_ne_nil _ _) ?_) | refine callG_t ?_ | refine l2Nums_call (by omega) ?_ | refine append_same ?_ | refine get_ii_n (by omega) ?_ | refine get_ii (by omega) ?_); conv => whnf) | (refine l3CutShape_call (by first | omega | assumption | (refine ⟨?_, ?_⟩ <;> first | assumption | omega) | (refine ⟨?_, ?_, ?_⟩ <;> first | assumption | omega)) ?_; conv => whnf) | (refine l2Without_calli (by omega) ?_; conv => whnf) | (refine l2BesideShape_call (by first | omega | assumption | (refine ⟨?_, ?_⟩ <;> first | assumption | omega) | (refine ⟨?_, ?_, ?_⟩ <;> first | assumption | omega)) ?_; conv => whnf) | ((first | refine in_call ?_ | refine l1Count_call ?_ | refine sCountOf_call ?_ | refine l1Join_call (And.intro (by assumption) (by assumption)) ?_ | refine sTurnShape_call (by omega) ?_ | refine And.intro (And.intro (by kernel_rfl) (And.intro rfl (Nat.le_of_ble_eq_true rfl))) ?_); conv => whnf) | refine aIf_eqf ?_
      | refine aIf_not ?_ | (refine aIf_dec (fun _ => ?_) (fun _ => ?_) <;> conv => whnf))
    all_goals (first | (exfalso; omega) | skip)
    all_goals exact retLBM h1 h2 rfl rfl
  · have hk : ¬ kOk x ss := fun hk => by
      rcases hk with hk | hk | hk | hk | hk | hk | hk | hk | hk
      all_goals (first | omega | exact hi hk.2)
    have h1 : spL x ss ins = [] := by unfold spL; rw [if_pos ⟨.inr hop, hk⟩]
    have h2 : decide (kOk x ss) = false := decide_eq_false hk
    conv => whnf
    repeat' (first
      | ((first | refine plan_in (id := 17) [0, 1, 3, 4, 6, 2, 5, 7, 8, 9, 10] (by kernel_rfl) (by kernel_rfl) ?_ | refine plan_in (id := 23) [0, 1, 2, 3, 4, 5, 6, 7, 8, 9, 10, 11, 12, 13, 14, 15, 16] (by kernel_rfl) (by kernel_rfl) ?_ | refine plan_in (id := 25) [0, 1, 2, 3, 4, 5, 6, 7, 8] (by kernel_rfl) (by kernel_rfl) ?_ | refine aIf_t ?_ | refine aIf_f ?_ | refine fun (_ : _ ≤ maxLen) => ?_ | refine get_nat (by omega) ?_ | refine get_int (by omega) ?_ | refine aGet_in rfl ?_ | refine And.intro (by omega) ?_ | refine And.intro rfl (And.intro (List.cons_ne_nil _ _) ?_) | refine callG_t ?_ | refine l2Nums_call (by omega) ?_ | refine append_same ?_ | refine get_ii_n (by omega) ?_ | refine get_ii (by omega) ?_); conv => whnf) | (refine l3CutShape_call (by first | omega | assumption | (refine ⟨?_, ?_⟩ <;> first | assumption | omega) | (refine ⟨?_, ?_, ?_⟩ <;> first | assumption | omega)) ?_; conv => whnf) | (refine l2Without_calli (by omega) ?_; conv => whnf) | (refine l2BesideShape_call (by first | omega | assumption | (refine ⟨?_, ?_⟩ <;> first | assumption | omega) | (refine ⟨?_, ?_, ?_⟩ <;> first | assumption | omega)) ?_; conv => whnf) | ((first | refine in_call ?_ | refine l1Count_call ?_ | refine sCountOf_call ?_ | refine l1Join_call (And.intro (by assumption) (by assumption)) ?_ | refine sTurnShape_call (by omega) ?_); conv => whnf) | refine aIf_eqf ?_
      | refine aIf_not ?_ | (refine aIf_dec (fun _ => ?_) (fun _ => ?_) <;> conv => whnf))
    all_goals (first | (exfalso; omega) | skip)
    all_goals exact retLBM h1 h2 rfl rfl
set_option maxHeartbeats 8000000 in
theorem l3Shape_2 : Sound Tryz.prog 96 (l3P (fun op => 2 ≤ op ∧ op ≤ 5)) := by
  refine sound_of Tryz.func96 rfl (enters_of Tryz.func96 (by kernel_rfl) (by kernel_rfl)) ?_
  rintro ⟨c, x, d, ss, e, ins⟩ hpre
  have hpre : (formP x ss.length ins.length ∧ allOk ss ∧ allOk ins ∧ x.l.length ≤ 1048576) ∧ (fun op : Int => 2 ≤ op ∧ op ≤ 5) x.op := hpre
  obtain ⟨⟨⟨f1, f2, f3, f4, f5, f6, f7⟩, hss, hins, hxl⟩, hop⟩ := hpre
  have hop : (fun op : Int => 2 ≤ op ∧ op ≤ 5) x.op := hop
  dsimp only at hop
  unfold lsP at f2
  have hmax : maxLen = 9223372036854775807 := rfl
  have t0 : Int.toNat 0 = 0 := rfl
  have t1 : Int.toNat 1 = 1 := rfl
  have t2 : Int.toNat 2 = 2 := rfl
  have hA : shapeOk (ss.getD x.a.toNat []) = true := hss x.a.toNat (by omega)
  have hA3 := ((shapeOk_iff _).1 hA).1
  have w1 : IntKind.i64.wrap (((ss.getD x.a.toNat []).length : Int) - 1) = (ss.getD x.a.toNat []).length - 1 := IntWalk.i64_in _ (by omega)
  have hB : shapeOk (ss.getD x.b.toNat []) = true := hss x.b.toNat (by omega)
  have hk : decide (kOk x ss) = jOk (ss.getD x.a.toNat []) (ss.getD x.b.toNat []) := Bool.eq_iff_iff.2 (by
    rw [decide_eq_true_iff]
    refine ⟨fun hk => ?_, fun hj => .inr (.inr (.inl ⟨hop.1, hop.2, hj⟩))⟩
    rcases hk with hk | hk | hk | hk | hk | hk | hk | hk | hk
    all_goals (first | omega | exact hk.2.2))
  have hL : spL x ss ins = jL (ss.getD x.a.toNat []) (ss.getD x.b.toNat []) := by
    unfold spL kL
    rw [if_neg (by omega), if_neg (by omega), if_neg (by omega), if_neg (by omega), if_neg (by omega), if_neg (by omega), if_neg (by omega), if_neg (by omega), if_neg (by omega), if_neg (by omega)]
  have h1 : spL x ss ins = jL (ss.getD x.a.toNat []) (ss.getD x.b.toNat []) := hL
  have h2 : decide (kOk x ss) = jOk (ss.getD x.a.toNat []) (ss.getD x.b.toNat []) := hk
  conv => whnf
  repeat' (first
    | ((first | refine plan_in (id := 17) [0, 1, 3, 4, 6, 2, 5, 7, 8, 9, 10] (by kernel_rfl) (by kernel_rfl) ?_ | refine plan_in (id := 23) [0, 1, 2, 3, 4, 5, 6, 7, 8, 9, 10, 11, 12, 13, 14, 15, 16] (by kernel_rfl) (by kernel_rfl) ?_ | refine plan_in (id := 25) [0, 1, 2, 3, 4, 5, 6, 7, 8] (by kernel_rfl) (by kernel_rfl) ?_ | refine aIf_t ?_ | refine aIf_f ?_ | refine fun (_ : _ ≤ maxLen) => ?_ | refine get_nat (by omega) ?_ | refine aGet_in rfl ?_ | refine And.intro (by omega) ?_ | refine And.intro rfl (And.intro (List.cons_ne_nil _ _) ?_) | refine callG_t ?_ | refine l2Nums_call (by omega) ?_ | refine append_same ?_ | refine get_ii_n (by omega) ?_ | refine get_ii (by omega) ?_); conv => whnf) | (refine l3CutShape_call (by first | omega | assumption | (refine ⟨?_, ?_⟩ <;> first | assumption | omega) | (refine ⟨?_, ?_, ?_⟩ <;> first | assumption | omega)) ?_; conv => whnf) | (refine l2Without_calli (by omega) ?_; conv => whnf) | (refine l2BesideShape_call (by first | omega | assumption | (refine ⟨?_, ?_⟩ <;> first | assumption | omega) | (refine ⟨?_, ?_, ?_⟩ <;> first | assumption | omega)) ?_; conv => whnf) | ((first | refine And.intro (pureL_ints _ _) ?_ | refine in_call ?_ | refine l1Count_call ?_ | refine sCountOf_call ?_ | refine l1Join_call (And.intro (by assumption) (by assumption)) ?_ | refine sTurnShape_call (by omega) ?_); conv => whnf) | refine aIf_eqf ?_
    | refine aIf_not ?_ | (refine aIf_dec (fun _ => ?_) (fun _ => ?_) <;> conv => whnf))
  all_goals (first | (exfalso; omega) | skip)
  all_goals exact retLBM h1 h2 rfl rfl
end Go.Proofs.YtjmdhfjemaoebaaGreat
namespace Go.Proofs.YtjmdhfjemaoebaaGreat
set_option maxRecDepth 20000
open Go.RowKit Go.Am
theorem l3P_or {p q r : Int → Prop} (h : ∀ op, r op → p op ∨ q op) (hp : Sound Tryz.prog 96 (l3P p)) (hq : Sound Tryz.prog 96 (l3P q)) : Sound Tryz.prog 96 (l3P r) :=
  ⟨hp.1, fun x hx => by
    obtain ⟨c, n, d, ss, e, ins⟩ := x
    have hx : (formP n ss.length ins.length ∧ allOk ss ∧ allOk ins ∧ n.l.length ≤ 1048576) ∧ r n.op := hx
    rcases h _ hx.2 with h1 | h1
    · exact hp.2 (c, n, d, ss, e, ins) ⟨hx.1, h1⟩
    · exact hq.2 (c, n, d, ss, e, ins) ⟨hx.1, h1⟩⟩
theorem l3Shape_sound : Sound Tryz.prog 96 (l3P (fun op => 0 ≤ op ∧ op ≤ 12)) := by
  refine l3P_or (p := fun op => op ≤ 7 ∧ 6 ≤ op ∨ op ≤ 1 ∧ 0 ≤ op) (q := fun op => 2 ≤ op ∧ op ≤ 5 ∨ 8 ≤ op ∧ op ≤ 12) (fun op h => by omega) ?_ ?_
  · refine l3P_or (p := fun op => op = 0 ∨ op = 1) (q := fun op => op = 6 ∨ op = 7) (fun op h => by omega) (l3P_or (fun _ h => h) l3Shape_0 l3Shape_1) (l3P_or (fun _ h => h) l3Shape_6 l3Shape_7)
  · refine l3P_or (p := fun op => op = 8 ∨ op = 9 ∨ op = 10) (q := fun op => (2 ≤ op ∧ op ≤ 5) ∨ op = 11 ∨ op = 12) (fun op h => by omega) (l3P_or (fun _ h => h) l3Shape_8 (l3P_or (fun _ h => h) l3Shape_9 l3Shape_10)) (l3P_or (fun _ h => h) l3Shape_2 (l3P_or (fun _ h => h) l3Shape_11 l3Shape_12))
theorem l3Shape_call {c d e : Nat} {x : Nd} {ss ins : List (List Int)} {env : List AV} {rows : List Row} {ctr low : Nat} {k : AV → St → Prop} (hpre : formP x ss.length ins.length ∧ allOk ss ∧ allOk ins ∧ x.l.length ≤ 1048576)
    (h : k (.tup [.ref rows.length ctr 0 (spL x ss ins).length, .bool (decide (kOk x ss))]) ⟨env, rows ++ [⟨ctr, 3, 1, (spL x ss ins).map (.int .i64)⟩], ctr + 1, low⟩) :
    CallB Tryz.prog 96 ⟨env, rows, ctr, low⟩ [.agg [.int .i64 x.op, .int .i64 x.a, .int .i64 x.b, .sl c x.l.length (x.l.map (.int .i64))], .sl d ss.length (ss.map (slI d)), .sl e ins.length (ins.map (slI e))] k := callLB_in l3Shape_sound (c, x, d, ss, e, ins) ⟨hpre, hpre.1.1⟩ h
end Go.Proofs.YtjmdhfjemaoebaaGreat
namespace Go.Proofs.YtjmdhfjemaoebaaGreat
set_option maxRecDepth 20000
open Go.RowKit Go.Am
set_option linter.unusedSimpArgs false
attribute [local irreducible] aPlan aGet aIf aLoop aCall RetB NextB CallB CallG aCut aSet aAppend
def sShapesOf : CSpec := fnRB (ι := Nat × List (List Int) × List Nd) 38 1 (fun | (c, xss, ns) => [.agg [.sl c xss.length (xss.map (slI c)), .sl c ns.length (ns.flatMap (ndC c))]]) (fun | (_, _, ns) => eP ns) (fun | (_, xss, ns) => (shM xss ns).1.length) (fun | (_, xss, ns) => (shM xss ns).1.map (ownI 3)) (fun | (_, xss, ns) => (shM xss ns).2)
theorem retRBM {env : List AV} {rows : List Row} {ctr τ ver m z : Nat} {t e : TypeId} {ss : List (List Int)} {b : Bool} {M : LB} {cells : List AV} (hM : M = (ss, b)) (hr : rows[τ]? = some ⟨ver, t, z, cells⟩) (hc : cells = ss.map (ownI e)) (hm : m = ss.length) :
    RetB ⟨env, rows, ctr, 0⟩ [] (fun r ic news => ic = [] ∧ r = .tup [.ref 0 0 0 M.1.length, .bool M.2] ∧ news = [⟨0, t, z, M.1.map (ownI e)⟩]) (.tup [.ref τ ver 0 m, .bool b]) := by
  subst hM; subst hc
  exact retRB hr (protL_oi _ _) hm rfl rfl
theorem le_snocO {t : TypeId} {ss : List (List Int)} {xs : List Int} {u : AV} {p : Prop} : (pureL (((ss.map (ownI t)) ++ [u]).set ss.length (ownI t xs)) = true ∧ (ss ++ [xs]).map (ownI t) = ((ss.map (ownI t)) ++ [u]).set ss.length (ownI t xs)) ∨ p := by
  refine le_cells ?_ (pureL_oi _ _)
  rw [List.set_append_right _ _ (by simp)]
  simp
set_option maxHeartbeats 8000000 in
theorem sShapesOf_sound : Sound Tryz.prog 53 sShapesOf := by
  refine sound_of Tryz.func53 rfl (enters_of Tryz.func53 (by kernel_rfl) (by kernel_rfl)) ?_
  rintro ⟨c, xss, ns⟩ hpre
  have hE : eP ns := hpre
  have hmax : maxLen = 9223372036854775807 := rfl
  conv => whnf
  repeat' (first
    | ((first | refine plan_in (id := 12) [0, 1, 2, 3, 4, 5, 6, 7, 8, 9, 10] (by kernel_rfl) (by kernel_rfl) ?_ | refine plan_in (id := 14) [0, 1, 2, 3, 4, 5, 6, 7, 8, 9, 10, 11, 12, 13] (by kernel_rfl) (by kernel_rfl) ?_ | refine aIf_t ?_ | refine aIf_f ?_ | refine fun (_ : _ ≤ maxLen) => ?_ | refine aGet_in rfl ?_ | refine And.intro rfl (And.intro (List.cons_ne_nil _ _) ?_) | refine callG_t ?_ | refine append_same ?_ | refine in_call ?_ | refine And.intro (And.intro (by kernel_rfl) (And.intro rfl (Nat.le_of_ble_eq_true rfl))) ?_); conv => whnf) | refine aIf_eqf ?_
    | refine aIf_not ?_ | (refine aIf_dec (fun _ => ?_) (fun _ => ?_) <;> conv => whnf))
  · exact retRBM (shM_f (fun h => by have := h.1.1; omega)) rfl rfl rfl
  · rename_i hx3 _ hn
    refine loop_u (ι := Nat) [false, true, false, false, true, true, false, false, false, false, false, false, false, false, false, false, false, false, false, false, false, false, false, false, false, false, false, false, false, false, false, false, false, false, false, false, false, false, false, false, false, false, false, false, false, false, false, false, false, false, false, false, false, false, false, false, false, false, false, false, false, false, false, false, false, false, false, false, false, false, false, false] (fun j => [(5, .int .i64 j)]) (fun _ => []) (fun j => j ≤ xss.length ∧ ∀ i, i < j → shapeOk (xss.getD i []) = true) (fun j => xss.length - j) (0) ⟨Nat.zero_le _, fun j hj => absurd hj (Nat.not_lt_zero _)⟩ ?_ ?_
    · conv => whnf
      repeat' (first
        | exact trivial | exact rfl
        | exact Or.inl (And.intro rfl rfl) | exact pureL_ii _ _
        | exact pureL_nd _ _ | refine Or.inr ?_
        | refine And.intro ?_ ?_ | exact Nat.le_of_ble_eq_true rfl)
    · rintro j ⟨hj, hall⟩
      have hj : j ≤ xss.length := hj
      conv => whnf
      repeat' (first
        | ((first | refine plan_in (id := 12) [0, 1, 2, 3, 4, 5, 6, 7, 8, 9, 10] (by kernel_rfl) (by kernel_rfl) ?_ | refine plan_in (id := 14) [0, 1, 2, 3, 4, 5, 6, 7, 8, 9, 10, 11, 12, 13] (by kernel_rfl) (by kernel_rfl) ?_ | refine fun (_ : _ ≤ maxLen) => ?_ | refine aGet_in rfl ?_ | refine And.intro (by omega) ?_ | refine callG_t ?_ | refine append_same ?_ | refine get_ii_n (by omega) ?_ | refine And.intro (pureL_ints _ _) ?_ | refine sShapeOk_call ?_); conv => whnf) | refine aIf_not ?_
        | (refine aIf_dec (fun _ => ?_) (fun _ => ?_) <;> conv => whnf) | (refine aIf_in (fun _ => ?_) (fun _ => ?_) <;> conv => whnf))
      · rename_i hlt hs
        refine next_u (j + 1) (show xss.length - (j + 1) < xss.length - j by omega) ⟨by omega, fun i hi => ?_⟩ ?_
        · rcases Nat.lt_succ_iff_lt_or_eq.1 hi with h | rfl
          · exact hall i h
          · exact hs
        · conv => whnf
          repeat' (first
            | exact trivial | exact rfl
            | exact Or.inl (And.intro rfl rfl) | exact pureL_ii _ _
            | exact pureL_nd _ _ | refine Or.inr ?_
            | refine And.intro ?_ ?_ | exact Nat.le_of_ble_eq_true rfl
            | exact int_eq (by rw [IntWalk.i64_in _ (by omega)] <;> omega))
      · rename_i hlt hs
        exact retRBM (shM_f (fun h => by have := h.1.2 j (by omega); rw [this] at hs; cases hs)) rfl rfl rfl
      · rename_i hje
        have hins : allOk xss := fun i hi => hall i (by omega)
        have hI : insOk xss ∧ 1 ≤ ns.length ∧ ns.length ≤ 12 := ⟨⟨by omega, hins⟩, by omega, by omega⟩
        refine loop_ut (ι := List (List Int)) [false, true, false, false, true, false, true, false, false, false, false, false, false, false, false, false, false, false, false, false, false, false, false, false, false, false, false, false, false, false, false, false, false, false, false, false, false, false, false, false, false, false, false, false, false, false, false, false, false, false, false, false, false, false, false, false, false, false, false, false, false, false, false, false, false, false, false, false, false, false, false, false] (fun ss => [(4, .ref 2 3 0 ss.length), (6, .int .i64 ss.length)]) (fun ss => [(2, ss.map (ownI 3))]) (fun ss => ss.length ≤ ns.length ∧ shTo xss ns ss.length = some ss) (fun ss => ns.length - ss.length) ([]) ⟨Nat.zero_le _, rfl⟩ ?_ ?_
        · conv => whnf
          refine St.le.to ?_
          conv => whnf
          repeat' (first
            | exact trivial | exact rfl
            | exact Or.inl (And.intro rfl rfl) | exact pureL_ii _ _
            | exact pureL_nd _ _ | refine Or.inr ?_
            | refine And.intro ?_ ?_ | exact Nat.le_of_ble_eq_true rfl)
        · rintro ss ⟨hsl, hss⟩
          have hsl : ss.length ≤ ns.length := hsl
          have hok := shTo_ok hins hss
          by_cases hlt : ss.length < ns.length
          · obtain ⟨hxl, hwf⟩ := hE _ hlt
            conv => whnf
            repeat' (first
              | ((first | refine plan_in (id := 12) [0, 1, 2, 3, 4, 5, 6, 7, 8, 9, 10] (by kernel_rfl) (by kernel_rfl) ?_ | refine plan_in (id := 14) [0, 1, 2, 3, 4, 5, 6, 7, 8, 9, 10, 11, 12, 13] (by kernel_rfl) (by kernel_rfl) ?_ | refine fun (_ : _ ≤ maxLen) => ?_ | refine aGet_in rfl ?_ | refine And.intro (by omega) ?_ | refine append_same ?_ | refine part_nd_n (by omega) ?_ | refine And.intro (pureL_ii _ _) ?_ | refine cut_ii rfl ?_); conv => whnf) | (refine l3Shape_call (by refine ⟨?_, ?_, ?_, ?_⟩ <;> first | assumption | omega) ?_; conv => whnf) | (refine l3Form_call (by first | omega | assumption | (refine ⟨?_, ?_⟩ <;> first | assumption | omega) | (refine ⟨?_, ?_, ?_⟩ <;> first | assumption | omega)) ?_; conv => whnf) | ((first | refine And.intro (pureL_ints _ _) ?_ | refine And.intro (And.intro (by kernel_rfl) (And.intro rfl (Nat.le_of_ble_eq_true rfl))) ?_); conv => whnf) | refine aIf_not ?_
              | (refine aIf_dec (fun _ => ?_) (fun _ => ?_) <;> conv => whnf))
            all_goals (first | (exfalso; omega) | skip)
            · rename_i hf hk
              refine append_ll rfl (by simp) rfl rfl (by omega) (Nat.zero_le _) ?_
              conv => whnf
              repeat' (first
                | ((first | refine plan_in (id := 12) [0, 1, 2, 3, 4, 5, 6, 7, 8, 9, 10] (by kernel_rfl) (by kernel_rfl) ?_ | refine plan_in (id := 14) [0, 1, 2, 3, 4, 5, 6, 7, 8, 9, 10, 11, 12, 13] (by kernel_rfl) (by kernel_rfl) ?_ | refine append_same ?_); conv => whnf))
              have hP : nodeP xss ns ss ss.length := ⟨hf, hk⟩
              have hn' := shTo_t hss hP
              have hlen : (ss ++ [spL (ns.getD ss.length default) ss xss]).length = ss.length + 1 := by simp
              refine next_ut (ss ++ [spL (ns.getD ss.length default) ss xss]) (show ns.length - (ss ++ [spL (ns.getD ss.length default) ss xss]).length < ns.length - ss.length by omega) ⟨(by omega : (ss ++ [spL (ns.getD ss.length default) ss xss]).length ≤ ns.length), by rw [hlen, spL_ok hk]; exact hn'⟩ ?_
              conv => whnf
              refine to_close 2 ss.length 3 _ _ 1 3 _ _ rfl (by simp; rfl) rfl (by decide) (Nat.zero_le _) (by decide) (by simp) ?_
              refine St.le.to ?_
              conv => whnf
              repeat' (first | exact le_snocO | refine And.intro ?_ ?_)
              repeat' (first
                | exact trivial | exact rfl
                | exact Or.inl (And.intro rfl rfl) | exact pureL_ii _ _
                | exact pureL_nd _ _ | refine Or.inr ?_
                | refine And.intro ?_ ?_ | exact Nat.le_of_ble_eq_true rfl
                | exact List.length_append | exact int_eq (by rw [IntWalk.i64_in _ (by omega)] <;> omega))
            · rename_i hf hk
              exact retRBM (shM_n (shTo_none (shTo_f hss fun h => hk h.2) _ (by omega))) rfl rfl rfl
            · rename_i hf
              exact retRBM (shM_n (shTo_none (shTo_f hss fun h => hf h.1) _ (by omega))) rfl rfl rfl
          · have he : ss.length = ns.length := by omega
            conv => whnf
            repeat' (first
              | ((first | refine plan_in (id := 12) [0, 1, 2, 3, 4, 5, 6, 7, 8, 9, 10] (by kernel_rfl) (by kernel_rfl) ?_ | refine plan_in (id := 14) [0, 1, 2, 3, 4, 5, 6, 7, 8, 9, 10, 11, 12, 13] (by kernel_rfl) (by kernel_rfl) ?_ | refine fun (_ : _ ≤ maxLen) => ?_ | refine aGet_in rfl ?_ | refine And.intro (by omega) ?_ | refine append_same ?_ | refine part_nd_n (by omega) ?_ | refine cut_ii rfl ?_); conv => whnf) | (refine l3Shape_call (by refine ⟨?_, ?_, ?_, ?_⟩ <;> first | assumption | omega) ?_; conv => whnf) | (refine l3Form_call (by first | omega | assumption | (refine ⟨?_, ?_⟩ <;> first | assumption | omega) | (refine ⟨?_, ?_, ?_⟩ <;> first | assumption | omega)) ?_; conv => whnf) | refine aIf_not ?_
              | (refine aIf_dec (fun _ => ?_) (fun _ => ?_) <;> conv => whnf))
            all_goals (first | (exfalso; omega) | skip)
            exact retRBM (shM_t hI (by rw [← he]; exact hss)) rfl rfl rfl
  · exact retRBM (shM_f (fun h => by have := h.2; omega)) rfl rfl rfl
theorem sShapesOf_call {c : Nat} {xss : List (List Int)} {ns : List Nd} {env : List AV} {rows : List Row} {ctr low : Nat} {k : AV → St → Prop} (hpre : eP ns)
    (h : k (.tup [.ref rows.length ctr 0 (shM xss ns).1.length, .bool (shM xss ns).2]) ⟨env, rows ++ [⟨ctr, 38, 1, (shM xss ns).1.map (ownI 3)⟩], ctr + 1, low⟩) :
    CallB Tryz.prog 53 ⟨env, rows, ctr, low⟩ [.agg [.sl c xss.length (xss.map (slI c)), .sl c ns.length (ns.flatMap (ndC c))]] k := callRB_in sShapesOf_sound (c, xss, ns) hpre (protL_oi _ _) h
theorem sExprOk_sound : Sound Tryz.prog 35 (fnS (ι := Nat × List (List Int) × List Nd) (fun | (c, xss, ns) => [.agg [.sl c xss.length (xss.map (slI c)), .sl c ns.length (ns.flatMap (ndC c))]]) (fun | (_, _, ns) => eP ns) (fun | (_, xss, ns) => .bool (shM xss ns).2)) := by
  refine sound_of Tryz.func35 rfl (enters_of Tryz.func35 (by kernel_rfl) (by kernel_rfl)) ?_
  rintro ⟨c, xss, ns⟩ hpre
  have hE : eP ns := hpre
  conv => whnf
  repeat' (first
    | ((first | refine aGet_in rfl ?_ | refine load_same ?_ | refine And.intro rfl (And.intro (List.cons_ne_nil _ _) ?_) | refine And.intro (Nat.le_of_ble_eq_true rfl) ?_ | refine callG_t ?_ | refine append_same ?_ | refine And.intro (pureL_ii _ _) ?_ | refine And.intro (pureL_nd _ _) ?_ | refine sShapesOf_call (by assumption) ?_ | refine takeN_in ?_ | refine And.intro (by kernel_rfl) ?_); conv => whnf))
  exact retS rfl rfl
theorem sExprOk_call {c : Nat} {xss : List (List Int)} {ns : List Nd} {env : List AV} {rows : List Row} {ctr low : Nat} {k : AV → St → Prop} (hpre : eP ns) (h : k (.bool (shM xss ns).2) ⟨env, rows, ctr + 1, low⟩) :
    CallB Tryz.prog 35 ⟨env, rows, ctr, low⟩ [.agg [.sl c xss.length (xss.map (slI c)), .sl c ns.length (ns.flatMap (ndC c))]] k := callS_in sExprOk_sound (c, xss, ns) hpre rfl h
end Go.Proofs.YtjmdhfjemaoebaaGreat
