import Derived.Test.YtjmdhfjemaoebaaM2x1
/- Chapter 3: the shape of a node: the program's. -/
namespace Go.Proofs.Ytjmdhfjemaoebaa
set_option maxRecDepth 20000
open Go.RowKit Go.Am
set_option linter.unusedSimpArgs false
attribute [local irreducible] aPlan aGet aIf aLoop aCall RetB NextB CallB CallG aCut aSet aAppend

theorem kL_0 {x : Nd} {ss ins : List (List Int)} (h : x.op = 0) : kL x ss ins = ins.getD x.a.toNat [] := by simp [kL, h]
theorem kL_1 {x : Nd} {ss ins : List (List Int)} (h : x.op = 1) : kL x ss ins = [] := by simp [kL, h]
def naL (xss : List (List Int)) (ns : List Nd) (ss : List (List Int)) (k : Nat) : List Int := if nodeP xss ns ss k then kL (ns.getD k default) ss xss else []
def sShapeAt : CSpec := fnLB (ι := Nat × List (List Int) × List Nd × Nat × Nat × List (List Int)) 3 (fun | (c, xss, ns, k, d, ss) => [.agg [.sl c xss.length (xss.map (slI c)), .sl c ns.length (ns.flatMap (ndC c))], .int .i64 k, .sl d ss.length (ss.map (slI d))]) (fun | (_, xss, ns, k, _, ss) => k < ns.length ∧ ss.length = k ∧ allOk ss ∧ allOk xss ∧ eP ns) (fun | (_, xss, ns, k, _, ss) => naL xss ns ss k) (fun | (_, xss, ns, k, _, ss) => decide (nodeP xss ns ss k))
set_option maxHeartbeats 8000000 in
theorem shapeAt_sound : Sound Try.prog 154 sShapeAt := by
  refine sound_of Try.func154 rfl (enters_of Try.func154 (by kernel_rfl) (by kernel_rfl)) ?_
  rintro ⟨c, xss, ns, k, d, ss⟩ hpre
  have hpre : k < ns.length ∧ ss.length = k ∧ allOk ss ∧ allOk xss ∧ eP ns := hpre
  obtain ⟨hk, hl, hss, hins, hE⟩ := hpre
  obtain ⟨hxl, hwf⟩ := hE k hk
  have hmax : maxLen = 9223372036854775807 := rfl
  by_cases hf : formP (ns.getD k default) k xss.length
  · have hf' := hf
    obtain ⟨f1, f2, f3, f4, f5, f6, f7⟩ := hf'
    by_cases o0 : (ns.getD k default).op = 0
    · have hI := hins (ns.getD k default).a.toNat (by omega)
      have hI3 := ((shapeOk_iff _).1 hI).1
      have hP : nodeP xss ns ss k := ⟨hf, .inl (by omega)⟩
      have h1 : naL xss ns ss k = xss.getD (ns.getD k default).a.toNat [] := by unfold naL; rw [if_pos hP, kL_0 o0]
      conv => whnf
      repeat' (first
        | (refine tree_in (id := 9) (.one 0 (.one 1 (.one 2 (.one 3 (.one 4 (.one 5 (.one 7 (.one 8 (.one 9 (.one 10 (.one 11 (.two 6 17 (.two 12 17 (.two 13 17 (.one 14 (.one 15 (.one 16 (.one 17 (.one 18 (.one 19 .nil)))))) (.one 13 (.one 14 (.one 15 (.one 16 (.one 18 (.one 19 .nil))))))) (.one 12 (.one 13 (.one 14 (.one 15 (.one 16 (.one 18 (.one 19 .nil)))))))) (.one 6 (.one 12 (.one 13 (.one 14 (.one 15 (.one 16 (.one 18 (.one 19 .nil)))))))))))))))))))) (by kernel_rfl) (by kernel_rfl) ?_; conv => whnf)
        | (refine fork_in ?_ ?_ <;> conv => whnf)
        | (refine aGet_in rfl ?_; conv => whnf)
        | (refine And.intro (by omega) ?_; conv => whnf)
        | (refine load_same ?_; conv => whnf)
        | (refine And.intro rfl (And.intro (List.cons_ne_nil _ _) ?_); conv => whnf)
        | (refine And.intro (Nat.le_of_ble_eq_true rfl) ?_; conv => whnf)
        | (refine callG_t ?_; conv => whnf)
        | (refine copyNums_call (by omega) ?_; conv => whnf)
        | (refine append_same ?_; conv => whnf)
        | (refine get_ii_n (by omega) ?_; conv => whnf)
        | (refine get_ii (by omega) ?_; conv => whnf)
        | (refine part_nd_n (by omega) ?_; conv => whnf)
        | (refine And.intro (pureL_ii _ _) ?_; conv => whnf)
        | (refine And.intro (pureL_nd _ _) ?_; conv => whnf)
        | (refine nodeOk_call (by first | omega | assumption | (refine ⟨?_, ?_⟩ <;> first | assumption | omega) | (refine ⟨?_, ?_, ?_⟩ <;> first | assumption | omega)) ?_; conv => whnf)
        | (refine takeN_in ?_; conv => whnf)
        | (refine And.intro (pureL_ints _ _) ?_; conv => whnf)
        | (refine set_force ?_; conv => whnf)
        | (refine And.intro (by kernel_rfl) ?_; conv => whnf)
        | refine aIf_not ?_
        | (refine aIf_dec (fun _ => ?_) (fun _ => ?_) <;> conv => whnf))
      all_goals (first | (exfalso; omega) | (exfalso; exact absurd hf (by assumption)) | skip)
      exact retLBM h1 (decide_eq_true hP) rfl rfl
    · by_cases o1 : (ns.getD k default).op = 1
      · have hP : nodeP xss ns ss k := ⟨hf, .inl (by omega)⟩
        have h1 : naL xss ns ss k = [] := by unfold naL; rw [if_pos hP, kL_1 o1]
        conv => whnf
        repeat' (first
          | (refine tree_in (id := 9) (.one 0 (.one 1 (.one 2 (.one 3 (.one 4 (.one 5 (.one 7 (.one 8 (.one 9 (.one 10 (.one 11 (.two 6 17 (.two 12 17 (.two 13 17 (.one 14 (.one 15 (.one 16 (.one 17 (.one 18 (.one 19 .nil)))))) (.one 13 (.one 14 (.one 15 (.one 16 (.one 18 (.one 19 .nil))))))) (.one 12 (.one 13 (.one 14 (.one 15 (.one 16 (.one 18 (.one 19 .nil)))))))) (.one 6 (.one 12 (.one 13 (.one 14 (.one 15 (.one 16 (.one 18 (.one 19 .nil)))))))))))))))))))) (by kernel_rfl) (by kernel_rfl) ?_; conv => whnf)
          | (refine fork_in ?_ ?_ <;> conv => whnf)
          | (refine aGet_in rfl ?_; conv => whnf)
          | (refine And.intro (by omega) ?_; conv => whnf)
          | (refine load_same ?_; conv => whnf)
          | (refine And.intro rfl (And.intro (List.cons_ne_nil _ _) ?_); conv => whnf)
          | (refine And.intro (Nat.le_of_ble_eq_true rfl) ?_; conv => whnf)
          | (refine callG_t ?_; conv => whnf)
          | (refine copyNums_call (by omega) ?_; conv => whnf)
          | (refine append_same ?_; conv => whnf)
          | (refine get_ii_n (by omega) ?_; conv => whnf)
          | (refine part_nd_n (by omega) ?_; conv => whnf)
          | (refine And.intro (pureL_ii _ _) ?_; conv => whnf)
          | (refine And.intro (pureL_nd _ _) ?_; conv => whnf)
          | (refine nodeOk_call (by first | omega | assumption | (refine ⟨?_, ?_⟩ <;> first | assumption | omega) | (refine ⟨?_, ?_, ?_⟩ <;> first | assumption | omega)) ?_; conv => whnf)
          | (refine takeN_in ?_; conv => whnf)
          | (refine set_force ?_; conv => whnf)
          | (refine And.intro (by kernel_rfl) ?_; conv => whnf)
          | refine aIf_not ?_
          | (refine aIf_dec (fun _ => ?_) (fun _ => ?_) <;> conv => whnf))
        all_goals (first | (exfalso; omega) | (exfalso; exact absurd hf (by assumption)) | skip)
        exact retLBM h1 (decide_eq_true hP) rfl rfl
      · have hA : shapeOk (ss.getD (ns.getD k default).a.toNat []) = true := hss _ (by omega)
        have hA3 := ((shapeOk_iff _).1 hA).1
        have hB : shapeOk (ss.getD (ns.getD k default).b.toNat []) = true := hss _ (by omega)
        have hZ := com_z (x := ns.getD k default) (ss := ss) (ins := xss) (B := ss.getD (ns.getD k default).b.toNat []) ⟨by omega, f1.2⟩ hA hB (fun _ => rfl)
        have h1 : naL xss ns ss k = (comM (ns.getD k default) (ss.getD (ns.getD k default).a.toNat []) (zsOf (ss.getD (ns.getD k default).a.toNat [])) (ss.getD (ns.getD k default).b.toNat []) (zsOf (ss.getD (ns.getD k default).b.toNat []))).1 := by
          by_cases hk : kOk (ns.getD k default) ss
          · rw [(hZ.b hk).2.1]; exact if_pos ⟨hf, hk⟩
          · rw [(hZ.n hk).2]; exact if_neg fun h => hk h.2
        have h2 : decide (nodeP xss ns ss k) = (comM (ns.getD k default) (ss.getD (ns.getD k default).a.toNat []) (zsOf (ss.getD (ns.getD k default).a.toNat [])) (ss.getD (ns.getD k default).b.toNat []) (zsOf (ss.getD (ns.getD k default).b.toNat []))).2.2 := by
          by_cases hk : kOk (ns.getD k default) ss
          · rw [(hZ.b hk).1]; exact decide_eq_true ⟨hf, hk⟩
          · rw [(hZ.n hk).1]; exact decide_eq_false fun h => hk h.2
        conv => whnf
        repeat' (first
          | (refine tree_in (id := 9) (.one 0 (.one 1 (.one 2 (.one 3 (.one 4 (.one 5 (.one 7 (.one 8 (.one 9 (.one 10 (.one 11 (.two 6 17 (.two 12 17 (.two 13 17 (.one 14 (.one 15 (.one 16 (.one 17 (.one 18 (.one 19 .nil)))))) (.one 13 (.one 14 (.one 15 (.one 16 (.one 18 (.one 19 .nil))))))) (.one 12 (.one 13 (.one 14 (.one 15 (.one 16 (.one 18 (.one 19 .nil)))))))) (.one 6 (.one 12 (.one 13 (.one 14 (.one 15 (.one 16 (.one 18 (.one 19 .nil)))))))))))))))))))) (by kernel_rfl) (by kernel_rfl) ?_; conv => whnf)
          | (refine fork_in ?_ ?_ <;> conv => whnf)
          | (refine aGet_in rfl ?_; conv => whnf)
          | (refine And.intro (by omega) ?_; conv => whnf)
          | (refine load_same ?_; conv => whnf)
          | (refine And.intro rfl (And.intro (List.cons_ne_nil _ _) ?_); conv => whnf)
          | (refine And.intro (Nat.le_of_ble_eq_true rfl) ?_; conv => whnf)
          | (refine callG_t ?_; conv => whnf)
          | (refine copyNums_call (by omega) ?_; conv => whnf)
          | (refine append_same ?_; conv => whnf)
          | (refine get_ii_n (by omega) ?_; conv => whnf)
          | (refine get_ii (by omega) ?_; conv => whnf)
          | (refine part_nd_n (by omega) ?_; conv => whnf)
          | (refine And.intro (pureL_ii _ _) ?_; conv => whnf)
          | (refine And.intro (pureL_nd _ _) ?_; conv => whnf)
          | (refine noughtsOf_call (by assumption) ?_; conv => whnf)
          | (refine comesOf_call (by refine ⟨?_, ?_, ?_, ?_⟩ <;> first | assumption | omega) ?_; conv => whnf)
          | (refine nodeOk_call (by first | omega | assumption | (refine ⟨?_, ?_⟩ <;> first | assumption | omega) | (refine ⟨?_, ?_, ?_⟩ <;> first | assumption | omega)) ?_; conv => whnf)
          | (refine takeN_in ?_; conv => whnf)
          | (refine And.intro (pureL_ints _ _) ?_; conv => whnf)
          | (refine cut_ints ?_; conv => whnf)
          | (refine set_force ?_; conv => whnf)
          | (refine And.intro (by kernel_rfl) ?_; conv => whnf)
          | refine aIf_not ?_
          | (refine aIf_dec (fun _ => ?_) (fun _ => ?_) <;> conv => whnf))
        all_goals (first | (exfalso; omega) | (exfalso; exact absurd hf (by assumption)) | skip)
        all_goals exact retLBM h1 h2 rfl rfl
  · have hP : ¬ nodeP xss ns ss k := fun h => hf h.1
    conv => whnf
    repeat' (first
      | (refine tree_in (id := 9) (.one 0 (.one 1 (.one 2 (.one 3 (.one 4 (.one 5 (.one 7 (.one 8 (.one 9 (.one 10 (.one 11 (.two 6 17 (.two 12 17 (.two 13 17 (.one 14 (.one 15 (.one 16 (.one 17 (.one 18 (.one 19 .nil)))))) (.one 13 (.one 14 (.one 15 (.one 16 (.one 18 (.one 19 .nil))))))) (.one 12 (.one 13 (.one 14 (.one 15 (.one 16 (.one 18 (.one 19 .nil)))))))) (.one 6 (.one 12 (.one 13 (.one 14 (.one 15 (.one 16 (.one 18 (.one 19 .nil)))))))))))))))))))) (by kernel_rfl) (by kernel_rfl) ?_; conv => whnf)
      | (refine aGet_in rfl ?_; conv => whnf)
      | (refine And.intro (by omega) ?_; conv => whnf)
      | (refine load_same ?_; conv => whnf)
      | (refine And.intro rfl (And.intro (List.cons_ne_nil _ _) ?_); conv => whnf)
      | (refine And.intro (Nat.le_of_ble_eq_true rfl) ?_; conv => whnf)
      | (refine callG_t ?_; conv => whnf)
      | (refine append_same ?_; conv => whnf)
      | (refine part_nd_n (by omega) ?_; conv => whnf)
      | (refine And.intro (pureL_ii _ _) ?_; conv => whnf)
      | (refine And.intro (pureL_nd _ _) ?_; conv => whnf)
      | (refine nodeOk_call (by first | omega | assumption | (refine ⟨?_, ?_⟩ <;> first | assumption | omega) | (refine ⟨?_, ?_, ?_⟩ <;> first | assumption | omega)) ?_; conv => whnf)
      | (refine takeN_in ?_; conv => whnf)
      | (refine set_force ?_; conv => whnf)
      | (refine And.intro (by kernel_rfl) ?_; conv => whnf)
      | refine aIf_not ?_
      | (refine aIf_dec (fun _ => ?_) (fun _ => ?_) <;> conv => whnf))
    all_goals (first | (exfalso; exact absurd (by assumption) hf) | skip)
    exact retLBM (if_neg hP) (decide_eq_false hP) rfl rfl
theorem shapeAt_call {c j d : Nat} {xss ss : List (List Int)} {ns : List Nd} {env : List AV} {rows : List Row} {ctr low : Nat} {k : AV → St → Prop} (hpre : j < ns.length ∧ ss.length = j ∧ allOk ss ∧ allOk xss ∧ eP ns) (h : k (.tup [.ref rows.length ctr 0 (naL xss ns ss j).length, .bool (decide (nodeP xss ns ss j))]) ⟨env, rows ++ [⟨ctr, 3, 1, (naL xss ns ss j).map (.int .i64)⟩], ctr + 1, low⟩) :
    CallB Try.prog 154 ⟨env, rows, ctr, low⟩ [.agg [.sl c xss.length (xss.map (slI c)), .sl c ns.length (ns.flatMap (ndC c))], .int .i64 j, .sl d ss.length (ss.map (slI d))] k := callLB_in shapeAt_sound (c, xss, ns, j, d, ss) hpre h
end Go.Proofs.Ytjmdhfjemaoebaa

/- Chapter 3: the shape of a node: the model's, kinds 0, 1, 6. -/
namespace Go.Proofs.Ytjmdhfjemaoebaa
set_option maxRecDepth 20000
open Go.RowKit Go.Am
set_option linter.unusedSimpArgs false
attribute [local irreducible] aPlan aGet aIf aLoop aCall RetB NextB CallB CallG aCut aSet aAppend

abbrev l3P (p : Int → Prop) : CSpec := fnLB (ι := Nat × Nd × Nat × List (List Int) × Nat × List (List Int)) 3 (fun | (c, x, d, ss, e, ins) => [.agg [.int .i64 x.op, .int .i64 x.a, .int .i64 x.b, .sl c x.l.length (x.l.map (.int .i64))], .sl d ss.length (ss.map (slI d)), .sl e ins.length (ins.map (slI e))]) (fun | (_, x, _, ss, _, ins) => (formP x ss.length ins.length ∧ allOk ss ∧ allOk ins ∧ x.l.length ≤ 1048576) ∧ p x.op) (fun | (_, x, _, ss, _, ins) => spL x ss ins) (fun | (_, x, _, ss, _, _) => decide (kOk x ss))
set_option maxHeartbeats 8000000 in
theorem l3Shape_0 : Sound Try.prog 152 (l3P (fun op => op = 0)) := by
  refine sound_of Try.func152 rfl (enters_of Try.func152 (by kernel_rfl) (by kernel_rfl)) ?_
  rintro ⟨c, x, d, ss, e, ins⟩ hpre
  have hpre : (formP x ss.length ins.length ∧ allOk ss ∧ allOk ins ∧ x.l.length ≤ 1048576) ∧ (fun op : Int => op = 0) x.op := hpre
  obtain ⟨⟨⟨f1, f2, f3, f4, f5, f6, f7⟩, hss, hins, hxl⟩, hop⟩ := hpre
  have hop : (fun op : Int => op = 0) x.op := hop
  dsimp only at hop
  unfold lsP at f2
  have hmax : maxLen = 9223372036854775807 := rfl
  have t0 : Int.toNat 0 = 0 := rfl
  have t1 : Int.toNat 1 = 1 := rfl
  have t2 : Int.toNat 2 = 2 := rfl
  have hI := hins x.a.toNat (by omega)
  have hI3 := ((shapeOk_iff _).1 hI).1
  conv => whnf
  repeat' (first
    | (refine plan_in (id := 17) [0, 1, 3, 4, 6, 2, 5, 7, 8, 9, 10] (by kernel_rfl) (by kernel_rfl) ?_; conv => whnf)
    | (refine plan_in (id := 23) [0, 1, 2, 3, 4, 5, 6, 7, 8, 9, 10, 11, 12, 13, 14, 15, 16] (by kernel_rfl) (by kernel_rfl) ?_; conv => whnf)
    | (refine plan_in (id := 25) [0, 1, 2, 3, 4, 5, 6, 7, 8] (by kernel_rfl) (by kernel_rfl) ?_; conv => whnf)
    | (refine aIf_t ?_; conv => whnf)
    | (refine aIf_f ?_; conv => whnf)
    | (refine fun (_ : _ ≤ maxLen) => ?_; conv => whnf)
    | (refine get_nat (by omega) ?_; conv => whnf)
    | (refine aGet_in rfl ?_; conv => whnf)
    | (refine And.intro (by omega) ?_; conv => whnf)
    | (refine And.intro rfl (And.intro (List.cons_ne_nil _ _) ?_); conv => whnf)
    | (refine callG_t ?_; conv => whnf)
    | (refine l2Nums_call (by omega) ?_; conv => whnf)
    | (refine append_same ?_; conv => whnf)
    | (refine get_ii_n (by omega) ?_; conv => whnf)
    | (refine get_ii (by omega) ?_; conv => whnf)
    | (refine l3CutShape_call (by first | omega | assumption | (refine ⟨?_, ?_⟩ <;> first | assumption | omega) | (refine ⟨?_, ?_, ?_⟩ <;> first | assumption | omega)) ?_; conv => whnf)
    | (refine l2Without_calli (by omega) ?_; conv => whnf)
    | (refine l2BesideShape_call (by first | omega | assumption | (refine ⟨?_, ?_⟩ <;> first | assumption | omega) | (refine ⟨?_, ?_, ?_⟩ <;> first | assumption | omega)) ?_; conv => whnf)
    | (refine And.intro (pureL_ints _ _) ?_; conv => whnf)
    | (refine in_call ?_; conv => whnf)
    | (refine l1Count_call ?_; conv => whnf)
    | (refine sCountOf_call ?_; conv => whnf)
    | (refine sTurnShape_call (by omega) ?_; conv => whnf)
    | refine aIf_eqf ?_
    | refine aIf_not ?_
    | (refine aIf_dec (fun _ => ?_) (fun _ => ?_) <;> conv => whnf))
  all_goals (first | (exfalso; omega) | skip)
  all_goals exact retLBM (zs := ins.getD x.a.toNat []) (by simp [spL, kL, hop]) (decide_eq_true (.inl (by omega))) rfl rfl
set_option maxHeartbeats 8000000 in
theorem l3Shape_1 : Sound Try.prog 152 (l3P (fun op => op = 1)) := by
  refine sound_of Try.func152 rfl (enters_of Try.func152 (by kernel_rfl) (by kernel_rfl)) ?_
  rintro ⟨c, x, d, ss, e, ins⟩ hpre
  have hpre : (formP x ss.length ins.length ∧ allOk ss ∧ allOk ins ∧ x.l.length ≤ 1048576) ∧ (fun op : Int => op = 1) x.op := hpre
  obtain ⟨⟨⟨f1, f2, f3, f4, f5, f6, f7⟩, hss, hins, hxl⟩, hop⟩ := hpre
  have hop : (fun op : Int => op = 1) x.op := hop
  dsimp only at hop
  unfold lsP at f2
  have hmax : maxLen = 9223372036854775807 := rfl
  have t0 : Int.toNat 0 = 0 := rfl
  have t1 : Int.toNat 1 = 1 := rfl
  have t2 : Int.toNat 2 = 2 := rfl
  conv => whnf
  repeat' (first
    | (refine plan_in (id := 17) [0, 1, 3, 4, 6, 2, 5, 7, 8, 9, 10] (by kernel_rfl) (by kernel_rfl) ?_; conv => whnf)
    | (refine plan_in (id := 23) [0, 1, 2, 3, 4, 5, 6, 7, 8, 9, 10, 11, 12, 13, 14, 15, 16] (by kernel_rfl) (by kernel_rfl) ?_; conv => whnf)
    | (refine plan_in (id := 25) [0, 1, 2, 3, 4, 5, 6, 7, 8] (by kernel_rfl) (by kernel_rfl) ?_; conv => whnf)
    | (refine aIf_t ?_; conv => whnf)
    | (refine aIf_f ?_; conv => whnf)
    | (refine fun (_ : _ ≤ maxLen) => ?_; conv => whnf)
    | (refine get_nat (by omega) ?_; conv => whnf)
    | (refine aGet_in rfl ?_; conv => whnf)
    | (refine And.intro (by omega) ?_; conv => whnf)
    | (refine And.intro rfl (And.intro (List.cons_ne_nil _ _) ?_); conv => whnf)
    | (refine callG_t ?_; conv => whnf)
    | (refine l2Nums_call (by omega) ?_; conv => whnf)
    | (refine append_same ?_; conv => whnf)
    | (refine get_ii_n (by omega) ?_; conv => whnf)
    | (refine l3CutShape_call (by first | omega | assumption | (refine ⟨?_, ?_⟩ <;> first | assumption | omega) | (refine ⟨?_, ?_, ?_⟩ <;> first | assumption | omega)) ?_; conv => whnf)
    | (refine l2Without_calli (by omega) ?_; conv => whnf)
    | (refine l2BesideShape_call (by first | omega | assumption | (refine ⟨?_, ?_⟩ <;> first | assumption | omega) | (refine ⟨?_, ?_, ?_⟩ <;> first | assumption | omega)) ?_; conv => whnf)
    | (refine in_call ?_; conv => whnf)
    | (refine l1Count_call ?_; conv => whnf)
    | (refine sCountOf_call ?_; conv => whnf)
    | (refine sTurnShape_call (by omega) ?_; conv => whnf)
    | (refine And.intro (And.intro (by kernel_rfl) (And.intro rfl (Nat.le_of_ble_eq_true rfl))) ?_; conv => whnf)
    | refine aIf_eqf ?_
    | refine aIf_not ?_
    | (refine aIf_dec (fun _ => ?_) (fun _ => ?_) <;> conv => whnf))
  all_goals (first | (exfalso; omega) | skip)
  all_goals exact retLBM (zs := []) (by simp [spL, kL, hop]) (decide_eq_true (.inl (by omega))) rfl rfl
set_option maxHeartbeats 8000000 in
theorem l3Shape_6 : Sound Try.prog 152 (l3P (fun op => op = 6)) := by
  refine sound_of Try.func152 rfl (enters_of Try.func152 (by kernel_rfl) (by kernel_rfl)) ?_
  rintro ⟨c, x, d, ss, e, ins⟩ hpre
  have hpre : (formP x ss.length ins.length ∧ allOk ss ∧ allOk ins ∧ x.l.length ≤ 1048576) ∧ (fun op : Int => op = 6) x.op := hpre
  obtain ⟨⟨⟨f1, f2, f3, f4, f5, f6, f7⟩, hss, hins, hxl⟩, hop⟩ := hpre
  have hop : (fun op : Int => op = 6) x.op := hop
  dsimp only at hop
  unfold lsP at f2
  have hmax : maxLen = 9223372036854775807 := rfl
  have t0 : Int.toNat 0 = 0 := rfl
  have t1 : Int.toNat 1 = 1 := rfl
  have t2 : Int.toNat 2 = 2 := rfl
  have hA : shapeOk (ss.getD x.a.toNat []) = true := hss x.a.toNat (by omega)
  have hA3 := ((shapeOk_iff _).1 hA).1
  have w1 : IntKind.i64.wrap (((ss.getD x.a.toNat []).length : Int) - 1) = (ss.getD x.a.toNat []).length - 1 := IntWalk.i64_in _ (by omega)
  conv => whnf
  repeat' (first
    | (refine plan_in (id := 17) [0, 1, 3, 4, 6, 2, 5, 7, 8, 9, 10] (by kernel_rfl) (by kernel_rfl) ?_; conv => whnf)
    | (refine plan_in (id := 23) [0, 1, 2, 3, 4, 5, 6, 7, 8, 9, 10, 11, 12, 13, 14, 15, 16] (by kernel_rfl) (by kernel_rfl) ?_; conv => whnf)
    | (refine plan_in (id := 25) [0, 1, 2, 3, 4, 5, 6, 7, 8] (by kernel_rfl) (by kernel_rfl) ?_; conv => whnf)
    | (refine aIf_t ?_; conv => whnf)
    | (refine aIf_f ?_; conv => whnf)
    | (refine fun (_ : _ ≤ maxLen) => ?_; conv => whnf)
    | (refine get_nat (by omega) ?_; conv => whnf)
    | (refine aGet_in rfl ?_; conv => whnf)
    | (refine And.intro (by omega) ?_; conv => whnf)
    | (refine And.intro rfl (And.intro (List.cons_ne_nil _ _) ?_); conv => whnf)
    | (refine callG_t ?_; conv => whnf)
    | (refine l2Nums_call (by omega) ?_; conv => whnf)
    | (refine append_same ?_; conv => whnf)
    | (refine get_ii_n (by omega) ?_; conv => whnf)
    | (refine get_ii (by omega) ?_; conv => whnf)
    | (refine l3CutShape_call (by first | omega | assumption | (refine ⟨?_, ?_⟩ <;> first | assumption | omega) | (refine ⟨?_, ?_, ?_⟩ <;> first | assumption | omega)) ?_; conv => whnf)
    | (refine l2Without_calli (by omega) ?_; conv => whnf)
    | (refine l2BesideShape_call (by first | omega | assumption | (refine ⟨?_, ?_⟩ <;> first | assumption | omega) | (refine ⟨?_, ?_, ?_⟩ <;> first | assumption | omega)) ?_; conv => whnf)
    | (refine And.intro (pureL_ints _ _) ?_; conv => whnf)
    | (refine in_call ?_; conv => whnf)
    | (refine l1Count_call ?_; conv => whnf)
    | (refine sCountOf_call ?_; conv => whnf)
    | (refine sTurnShape_call (by omega) ?_; conv => whnf)
    | refine aIf_eqf ?_
    | refine aIf_not ?_
    | (refine aIf_dec (fun _ => ?_) (fun _ => ?_) <;> conv => whnf))
  all_goals (first | (exfalso; omega) | skip)
  all_goals exact retLBM (zs := (ss.getD x.a.toNat [])) (by simp [spL, kL, hop]) (decide_eq_true (.inr (.inl hop))) rfl rfl
end Go.Proofs.Ytjmdhfjemaoebaa

/- Chapter 3: the shape of a node: the model's, kinds 7, 8. -/
namespace Go.Proofs.Ytjmdhfjemaoebaa
set_option maxRecDepth 20000
open Go.RowKit Go.Am
set_option linter.unusedSimpArgs false
attribute [local irreducible] aPlan aGet aIf aLoop aCall RetB NextB CallB CallG aCut aSet aAppend

set_option maxHeartbeats 8000000 in
theorem l3Shape_7 : Sound Try.prog 152 (l3P (fun op => op = 7)) := by
  refine sound_of Try.func152 rfl (enters_of Try.func152 (by kernel_rfl) (by kernel_rfl)) ?_
  rintro ⟨c, x, d, ss, e, ins⟩ hpre
  have hpre : (formP x ss.length ins.length ∧ allOk ss ∧ allOk ins ∧ x.l.length ≤ 1048576) ∧ (fun op : Int => op = 7) x.op := hpre
  obtain ⟨⟨⟨f1, f2, f3, f4, f5, f6, f7⟩, hss, hins, hxl⟩, hop⟩ := hpre
  have hop : (fun op : Int => op = 7) x.op := hop
  dsimp only at hop
  unfold lsP at f2
  have hmax : maxLen = 9223372036854775807 := rfl
  have t0 : Int.toNat 0 = 0 := rfl
  have t1 : Int.toNat 1 = 1 := rfl
  have t2 : Int.toNat 2 = 2 := rfl
  have hA : shapeOk (ss.getD x.a.toNat []) = true := hss x.a.toNat (by omega)
  have hA3 := ((shapeOk_iff _).1 hA).1
  have w1 : IntKind.i64.wrap (((ss.getD x.a.toNat []).length : Int) - 1) = (ss.getD x.a.toNat []).length - 1 := IntWalk.i64_in _ (by omega)
  have hl : x.l.length = 1 := by omega
  by_cases hi : 0 ≤ (x.l.getD (Int.toNat 0) 0) ∧ (x.l.getD (Int.toNat 0) 0) < (ss.getD x.a.toNat []).length
  · have hk : kOk x ss := .inr (.inr (.inr (.inl ⟨hop, hi⟩)))
    have h1 : spL x ss ins = wo (ss.getD x.a.toNat []) (x.l.getD (Int.toNat 0) 0).toNat := by rw [spL_ok hk]; simp [kL, hop]
    have h2 : decide (kOk x ss) = true := decide_eq_true hk
    conv => whnf
    repeat' (first
      | (refine plan_in (id := 17) [0, 1, 3, 4, 6, 2, 5, 7, 8, 9, 10] (by kernel_rfl) (by kernel_rfl) ?_; conv => whnf)
      | (refine plan_in (id := 23) [0, 1, 2, 3, 4, 5, 6, 7, 8, 9, 10, 11, 12, 13, 14, 15, 16] (by kernel_rfl) (by kernel_rfl) ?_; conv => whnf)
      | (refine plan_in (id := 25) [0, 1, 2, 3, 4, 5, 6, 7, 8] (by kernel_rfl) (by kernel_rfl) ?_; conv => whnf)
      | (refine aIf_t ?_; conv => whnf)
      | (refine aIf_f ?_; conv => whnf)
      | (refine fun (_ : _ ≤ maxLen) => ?_; conv => whnf)
      | (refine get_nat (by omega) ?_; conv => whnf)
      | (refine get_int (by omega) ?_; conv => whnf)
      | (refine aGet_in rfl ?_; conv => whnf)
      | (refine And.intro (by omega) ?_; conv => whnf)
      | (refine And.intro rfl (And.intro (List.cons_ne_nil _ _) ?_); conv => whnf)
      | (refine callG_t ?_; conv => whnf)
      | (refine l2Nums_call (by omega) ?_; conv => whnf)
      | (refine append_same ?_; conv => whnf)
      | (refine get_ii_n (by omega) ?_; conv => whnf)
      | (refine get_ii (by omega) ?_; conv => whnf)
      | (refine l3CutShape_call (by first | omega | assumption | (refine ⟨?_, ?_⟩ <;> first | assumption | omega) | (refine ⟨?_, ?_, ?_⟩ <;> first | assumption | omega)) ?_; conv => whnf)
      | (refine l2Without_calli (by omega) ?_; conv => whnf)
      | (refine l2BesideShape_call (by first | omega | assumption | (refine ⟨?_, ?_⟩ <;> first | assumption | omega) | (refine ⟨?_, ?_, ?_⟩ <;> first | assumption | omega)) ?_; conv => whnf)
      | (refine And.intro (pureL_ints _ _) ?_; conv => whnf)
      | (refine in_call ?_; conv => whnf)
      | (refine l1Count_call ?_; conv => whnf)
      | (refine sCountOf_call ?_; conv => whnf)
      | (refine sTurnShape_call (by omega) ?_; conv => whnf)
      | refine aIf_eqf ?_
      | refine aIf_not ?_
      | (refine aIf_dec (fun _ => ?_) (fun _ => ?_) <;> conv => whnf))
    all_goals (first | (exfalso; omega) | skip)
    all_goals exact retLBM h1 h2 rfl rfl
  · have hk : ¬ kOk x ss := fun hk => by
      rcases hk with hk | hk | hk | hk | hk | hk | hk | hk | hk
      all_goals (first | omega | exact hi hk.2)
    have h1 : spL x ss ins = [] := by unfold spL; rw [if_pos ⟨.inl hop, hk⟩]
    have h2 : decide (kOk x ss) = false := decide_eq_false hk
    conv => whnf
    repeat' (first
      | (refine plan_in (id := 17) [0, 1, 3, 4, 6, 2, 5, 7, 8, 9, 10] (by kernel_rfl) (by kernel_rfl) ?_; conv => whnf)
      | (refine plan_in (id := 23) [0, 1, 2, 3, 4, 5, 6, 7, 8, 9, 10, 11, 12, 13, 14, 15, 16] (by kernel_rfl) (by kernel_rfl) ?_; conv => whnf)
      | (refine plan_in (id := 25) [0, 1, 2, 3, 4, 5, 6, 7, 8] (by kernel_rfl) (by kernel_rfl) ?_; conv => whnf)
      | (refine aIf_t ?_; conv => whnf)
      | (refine aIf_f ?_; conv => whnf)
      | (refine fun (_ : _ ≤ maxLen) => ?_; conv => whnf)
      | (refine get_nat (by omega) ?_; conv => whnf)
      | (refine get_int (by omega) ?_; conv => whnf)
      | (refine aGet_in rfl ?_; conv => whnf)
      | (refine And.intro (by omega) ?_; conv => whnf)
      | (refine And.intro rfl (And.intro (List.cons_ne_nil _ _) ?_); conv => whnf)
      | (refine callG_t ?_; conv => whnf)
      | (refine l2Nums_call (by omega) ?_; conv => whnf)
      | (refine append_same ?_; conv => whnf)
      | (refine get_ii_n (by omega) ?_; conv => whnf)
      | (refine get_ii (by omega) ?_; conv => whnf)
      | (refine l3CutShape_call (by first | omega | assumption | (refine ⟨?_, ?_⟩ <;> first | assumption | omega) | (refine ⟨?_, ?_, ?_⟩ <;> first | assumption | omega)) ?_; conv => whnf)
      | (refine l2Without_calli (by omega) ?_; conv => whnf)
      | (refine l2BesideShape_call (by first | omega | assumption | (refine ⟨?_, ?_⟩ <;> first | assumption | omega) | (refine ⟨?_, ?_, ?_⟩ <;> first | assumption | omega)) ?_; conv => whnf)
      | (refine in_call ?_; conv => whnf)
      | (refine l1Count_call ?_; conv => whnf)
      | (refine sCountOf_call ?_; conv => whnf)
      | (refine sTurnShape_call (by omega) ?_; conv => whnf)
      | refine aIf_eqf ?_
      | refine aIf_not ?_
      | (refine aIf_dec (fun _ => ?_) (fun _ => ?_) <;> conv => whnf))
    all_goals (first | (exfalso; omega) | skip)
    all_goals exact retLBM h1 h2 rfl rfl
set_option maxHeartbeats 8000000 in
theorem l3Shape_8 : Sound Try.prog 152 (l3P (fun op => op = 8)) := by
  refine sound_of Try.func152 rfl (enters_of Try.func152 (by kernel_rfl) (by kernel_rfl)) ?_
  rintro ⟨c, x, d, ss, e, ins⟩ hpre
  have hpre : (formP x ss.length ins.length ∧ allOk ss ∧ allOk ins ∧ x.l.length ≤ 1048576) ∧ (fun op : Int => op = 8) x.op := hpre
  obtain ⟨⟨⟨f1, f2, f3, f4, f5, f6, f7⟩, hss, hins, hxl⟩, hop⟩ := hpre
  have hop : (fun op : Int => op = 8) x.op := hop
  dsimp only at hop
  unfold lsP at f2
  have hmax : maxLen = 9223372036854775807 := rfl
  have t0 : Int.toNat 0 = 0 := rfl
  have t1 : Int.toNat 1 = 1 := rfl
  have t2 : Int.toNat 2 = 2 := rfl
  have hA : shapeOk (ss.getD x.a.toNat []) = true := hss x.a.toNat (by omega)
  have hA3 := ((shapeOk_iff _).1 hA).1
  have w1 : IntKind.i64.wrap (((ss.getD x.a.toNat []).length : Int) - 1) = (ss.getD x.a.toNat []).length - 1 := IntWalk.i64_in _ (by omega)
  have h1 : spL x ss ins = tsL (ss.getD x.a.toNat []) x.l := by simp [spL, kL, hop]
  have h2 : decide (kOk x ss) = tsOk (ss.getD x.a.toNat []) x.l := by simp [kOk, hop]
  conv => whnf
  repeat' (first
    | (refine plan_in (id := 17) [0, 1, 3, 4, 6, 2, 5, 7, 8, 9, 10] (by kernel_rfl) (by kernel_rfl) ?_; conv => whnf)
    | (refine plan_in (id := 23) [0, 1, 2, 3, 4, 5, 6, 7, 8, 9, 10, 11, 12, 13, 14, 15, 16] (by kernel_rfl) (by kernel_rfl) ?_; conv => whnf)
    | (refine plan_in (id := 25) [0, 1, 2, 3, 4, 5, 6, 7, 8] (by kernel_rfl) (by kernel_rfl) ?_; conv => whnf)
    | (refine aIf_t ?_; conv => whnf)
    | (refine aIf_f ?_; conv => whnf)
    | (refine fun (_ : _ ≤ maxLen) => ?_; conv => whnf)
    | (refine get_nat (by omega) ?_; conv => whnf)
    | (refine aGet_in rfl ?_; conv => whnf)
    | (refine And.intro (by omega) ?_; conv => whnf)
    | (refine And.intro rfl (And.intro (List.cons_ne_nil _ _) ?_); conv => whnf)
    | (refine callG_t ?_; conv => whnf)
    | (refine l2Nums_call (by omega) ?_; conv => whnf)
    | (refine append_same ?_; conv => whnf)
    | (refine get_ii_n (by omega) ?_; conv => whnf)
    | (refine get_ii (by omega) ?_; conv => whnf)
    | (refine l3CutShape_call (by first | omega | assumption | (refine ⟨?_, ?_⟩ <;> first | assumption | omega) | (refine ⟨?_, ?_, ?_⟩ <;> first | assumption | omega)) ?_; conv => whnf)
    | (refine l2Without_calli (by omega) ?_; conv => whnf)
    | (refine l2BesideShape_call (by first | omega | assumption | (refine ⟨?_, ?_⟩ <;> first | assumption | omega) | (refine ⟨?_, ?_, ?_⟩ <;> first | assumption | omega)) ?_; conv => whnf)
    | (refine And.intro (pureL_ints _ _) ?_; conv => whnf)
    | (refine in_call ?_; conv => whnf)
    | (refine l1Count_call ?_; conv => whnf)
    | (refine sCountOf_call ?_; conv => whnf)
    | (refine sTurnShape_call (by omega) ?_; conv => whnf)
    | refine aIf_eqf ?_
    | refine aIf_not ?_
    | (refine aIf_dec (fun _ => ?_) (fun _ => ?_) <;> conv => whnf))
  all_goals (first | (exfalso; omega) | skip)
  all_goals exact retLBM h1 h2 rfl rfl
end Go.Proofs.Ytjmdhfjemaoebaa

/- Chapter 3: the shape of a node: the model's, kinds 9, 10. -/
namespace Go.Proofs.Ytjmdhfjemaoebaa
set_option maxRecDepth 20000
open Go.RowKit Go.Am
set_option linter.unusedSimpArgs false
attribute [local irreducible] aPlan aGet aIf aLoop aCall RetB NextB CallB CallG aCut aSet aAppend

set_option maxHeartbeats 8000000 in
theorem l3Shape_9 : Sound Try.prog 152 (l3P (fun op => op = 9)) := by
  refine sound_of Try.func152 rfl (enters_of Try.func152 (by kernel_rfl) (by kernel_rfl)) ?_
  rintro ⟨c, x, d, ss, e, ins⟩ hpre
  have hpre : (formP x ss.length ins.length ∧ allOk ss ∧ allOk ins ∧ x.l.length ≤ 1048576) ∧ (fun op : Int => op = 9) x.op := hpre
  obtain ⟨⟨⟨f1, f2, f3, f4, f5, f6, f7⟩, hss, hins, hxl⟩, hop⟩ := hpre
  have hop : (fun op : Int => op = 9) x.op := hop
  dsimp only at hop
  unfold lsP at f2
  have hmax : maxLen = 9223372036854775807 := rfl
  have t0 : Int.toNat 0 = 0 := rfl
  have t1 : Int.toNat 1 = 1 := rfl
  have t2 : Int.toNat 2 = 2 := rfl
  have hA : shapeOk (ss.getD x.a.toNat []) = true := hss x.a.toNat (by omega)
  have hA3 := ((shapeOk_iff _).1 hA).1
  have w1 : IntKind.i64.wrap (((ss.getD x.a.toNat []).length : Int) - 1) = (ss.getD x.a.toNat []).length - 1 := IntWalk.i64_in _ (by omega)
  have h1 : spL x ss ins = x.l := by simp [spL, kL, hop]
  have h2 : decide (kOk x ss) = (countOf x.l == cntTo (ss.getD x.a.toNat []) (ss.getD x.a.toNat []).length) := Bool.eq_iff_iff.2 (by simp [kOk, hop])
  conv => whnf
  repeat' (first
    | (refine plan_in (id := 17) [0, 1, 3, 4, 6, 2, 5, 7, 8, 9, 10] (by kernel_rfl) (by kernel_rfl) ?_; conv => whnf)
    | (refine plan_in (id := 23) [0, 1, 2, 3, 4, 5, 6, 7, 8, 9, 10, 11, 12, 13, 14, 15, 16] (by kernel_rfl) (by kernel_rfl) ?_; conv => whnf)
    | (refine plan_in (id := 25) [0, 1, 2, 3, 4, 5, 6, 7, 8] (by kernel_rfl) (by kernel_rfl) ?_; conv => whnf)
    | (refine aIf_t ?_; conv => whnf)
    | (refine aIf_f ?_; conv => whnf)
    | (refine fun (_ : _ ≤ maxLen) => ?_; conv => whnf)
    | (refine get_nat (by omega) ?_; conv => whnf)
    | (refine aGet_in rfl ?_; conv => whnf)
    | (refine And.intro (by omega) ?_; conv => whnf)
    | (refine And.intro rfl (And.intro (List.cons_ne_nil _ _) ?_); conv => whnf)
    | (refine callG_t ?_; conv => whnf)
    | (refine l2Nums_call (by omega) ?_; conv => whnf)
    | (refine append_same ?_; conv => whnf)
    | (refine get_ii_n (by omega) ?_; conv => whnf)
    | (refine get_ii (by omega) ?_; conv => whnf)
    | (refine l3CutShape_call (by first | omega | assumption | (refine ⟨?_, ?_⟩ <;> first | assumption | omega) | (refine ⟨?_, ?_, ?_⟩ <;> first | assumption | omega)) ?_; conv => whnf)
    | (refine l2Without_calli (by omega) ?_; conv => whnf)
    | (refine l2BesideShape_call (by first | omega | assumption | (refine ⟨?_, ?_⟩ <;> first | assumption | omega) | (refine ⟨?_, ?_, ?_⟩ <;> first | assumption | omega)) ?_; conv => whnf)
    | (refine And.intro (pureL_ints _ _) ?_; conv => whnf)
    | (refine in_call ?_; conv => whnf)
    | (refine l1Count_call ?_; conv => whnf)
    | (refine sCountOf_call ?_; conv => whnf)
    | (refine sTurnShape_call (by omega) ?_; conv => whnf)
    | refine aIf_eqf ?_
    | refine aIf_not ?_
    | (refine aIf_dec (fun _ => ?_) (fun _ => ?_) <;> conv => whnf))
  all_goals (first | (exfalso; omega) | skip)
  all_goals exact retLBM h1 h2 rfl rfl
set_option maxHeartbeats 8000000 in
theorem l3Shape_10 : Sound Try.prog 152 (l3P (fun op => op = 10)) := by
  refine sound_of Try.func152 rfl (enters_of Try.func152 (by kernel_rfl) (by kernel_rfl)) ?_
  rintro ⟨c, x, d, ss, e, ins⟩ hpre
  have hpre : (formP x ss.length ins.length ∧ allOk ss ∧ allOk ins ∧ x.l.length ≤ 1048576) ∧ (fun op : Int => op = 10) x.op := hpre
  obtain ⟨⟨⟨f1, f2, f3, f4, f5, f6, f7⟩, hss, hins, hxl⟩, hop⟩ := hpre
  have hop : (fun op : Int => op = 10) x.op := hop
  dsimp only at hop
  unfold lsP at f2
  have hmax : maxLen = 9223372036854775807 := rfl
  have t0 : Int.toNat 0 = 0 := rfl
  have t1 : Int.toNat 1 = 1 := rfl
  have t2 : Int.toNat 2 = 2 := rfl
  have hA : shapeOk (ss.getD x.a.toNat []) = true := hss x.a.toNat (by omega)
  have hA3 := ((shapeOk_iff _).1 hA).1
  have w1 : IntKind.i64.wrap (((ss.getD x.a.toNat []).length : Int) - 1) = (ss.getD x.a.toNat []).length - 1 := IntWalk.i64_in _ (by omega)
  have hl : x.l.length = 3 := by omega
  have h1 : spL x ss ins = cshL (ss.getD x.a.toNat []) x.l := by simp [spL, kL, hop]
  have h2 : decide (kOk x ss) = decide (cshP (ss.getD x.a.toNat []) x.l) := by simp [kOk, hop]
  conv => whnf
  repeat' (first
    | (refine plan_in (id := 17) [0, 1, 3, 4, 6, 2, 5, 7, 8, 9, 10] (by kernel_rfl) (by kernel_rfl) ?_; conv => whnf)
    | (refine plan_in (id := 23) [0, 1, 2, 3, 4, 5, 6, 7, 8, 9, 10, 11, 12, 13, 14, 15, 16] (by kernel_rfl) (by kernel_rfl) ?_; conv => whnf)
    | (refine plan_in (id := 25) [0, 1, 2, 3, 4, 5, 6, 7, 8] (by kernel_rfl) (by kernel_rfl) ?_; conv => whnf)
    | (refine aIf_t ?_; conv => whnf)
    | (refine aIf_f ?_; conv => whnf)
    | (refine fun (_ : _ ≤ maxLen) => ?_; conv => whnf)
    | (refine get_nat (by omega) ?_; conv => whnf)
    | (refine aGet_in rfl ?_; conv => whnf)
    | (refine And.intro (by omega) ?_; conv => whnf)
    | (refine And.intro rfl (And.intro (List.cons_ne_nil _ _) ?_); conv => whnf)
    | (refine callG_t ?_; conv => whnf)
    | (refine l2Nums_call (by omega) ?_; conv => whnf)
    | (refine append_same ?_; conv => whnf)
    | (refine get_ii_n (by omega) ?_; conv => whnf)
    | (refine get_ii (by omega) ?_; conv => whnf)
    | (refine l3CutShape_call (by first | omega | assumption | (refine ⟨?_, ?_⟩ <;> first | assumption | omega) | (refine ⟨?_, ?_, ?_⟩ <;> first | assumption | omega)) ?_; conv => whnf)
    | (refine l2Without_calli (by omega) ?_; conv => whnf)
    | (refine l2BesideShape_call (by first | omega | assumption | (refine ⟨?_, ?_⟩ <;> first | assumption | omega) | (refine ⟨?_, ?_, ?_⟩ <;> first | assumption | omega)) ?_; conv => whnf)
    | (refine And.intro (pureL_ints _ _) ?_; conv => whnf)
    | (refine in_call ?_; conv => whnf)
    | (refine l1Count_call ?_; conv => whnf)
    | (refine sCountOf_call ?_; conv => whnf)
    | (refine sTurnShape_call (by omega) ?_; conv => whnf)
    | refine aIf_eqf ?_
    | refine aIf_not ?_
    | (refine aIf_dec (fun _ => ?_) (fun _ => ?_) <;> conv => whnf))
  all_goals (first | (exfalso; omega) | skip)
  all_goals exact retLBM h1 h2 rfl rfl
end Go.Proofs.Ytjmdhfjemaoebaa

/- Chapter 3: the shape of a node: the model's, kinds 11, 12, 2 to 5. -/
namespace Go.Proofs.Ytjmdhfjemaoebaa
set_option maxRecDepth 20000
open Go.RowKit Go.Am
set_option linter.unusedSimpArgs false
attribute [local irreducible] aPlan aGet aIf aLoop aCall RetB NextB CallB CallG aCut aSet aAppend

set_option maxHeartbeats 8000000 in
theorem l3Shape_11 : Sound Try.prog 152 (l3P (fun op => op = 11)) := by
  refine sound_of Try.func152 rfl (enters_of Try.func152 (by kernel_rfl) (by kernel_rfl)) ?_
  rintro ⟨c, x, d, ss, e, ins⟩ hpre
  have hpre : (formP x ss.length ins.length ∧ allOk ss ∧ allOk ins ∧ x.l.length ≤ 1048576) ∧ (fun op : Int => op = 11) x.op := hpre
  obtain ⟨⟨⟨f1, f2, f3, f4, f5, f6, f7⟩, hss, hins, hxl⟩, hop⟩ := hpre
  have hop : (fun op : Int => op = 11) x.op := hop
  dsimp only at hop
  unfold lsP at f2
  have hmax : maxLen = 9223372036854775807 := rfl
  have t0 : Int.toNat 0 = 0 := rfl
  have t1 : Int.toNat 1 = 1 := rfl
  have t2 : Int.toNat 2 = 2 := rfl
  have hA : shapeOk (ss.getD x.a.toNat []) = true := hss x.a.toNat (by omega)
  have hA3 := ((shapeOk_iff _).1 hA).1
  have w1 : IntKind.i64.wrap (((ss.getD x.a.toNat []).length : Int) - 1) = (ss.getD x.a.toNat []).length - 1 := IntWalk.i64_in _ (by omega)
  have hB : shapeOk (ss.getD x.b.toNat []) = true := hss x.b.toNat (by omega)
  have hl : x.l.length = 1 := by omega
  have h1 : spL x ss ins = bshL (ss.getD x.a.toNat []) (ss.getD x.b.toNat []) (x.l.getD (Int.toNat 0) 0) := by simp [spL, kL, hop]
  have h2 : decide (kOk x ss) = decide (bshP (ss.getD x.a.toNat []) (ss.getD x.b.toNat []) (x.l.getD (Int.toNat 0) 0)) := by simp [kOk, hop]
  conv => whnf
  repeat' (first
    | (refine plan_in (id := 17) [0, 1, 3, 4, 6, 2, 5, 7, 8, 9, 10] (by kernel_rfl) (by kernel_rfl) ?_; conv => whnf)
    | (refine plan_in (id := 23) [0, 1, 2, 3, 4, 5, 6, 7, 8, 9, 10, 11, 12, 13, 14, 15, 16] (by kernel_rfl) (by kernel_rfl) ?_; conv => whnf)
    | (refine plan_in (id := 25) [0, 1, 2, 3, 4, 5, 6, 7, 8] (by kernel_rfl) (by kernel_rfl) ?_; conv => whnf)
    | (refine aIf_t ?_; conv => whnf)
    | (refine aIf_f ?_; conv => whnf)
    | (refine fun (_ : _ ≤ maxLen) => ?_; conv => whnf)
    | (refine get_nat (by omega) ?_; conv => whnf)
    | (refine get_int (by omega) ?_; conv => whnf)
    | (refine aGet_in rfl ?_; conv => whnf)
    | (refine And.intro (by omega) ?_; conv => whnf)
    | (refine And.intro rfl (And.intro (List.cons_ne_nil _ _) ?_); conv => whnf)
    | (refine callG_t ?_; conv => whnf)
    | (refine l2Nums_call (by omega) ?_; conv => whnf)
    | (refine append_same ?_; conv => whnf)
    | (refine get_ii_n (by omega) ?_; conv => whnf)
    | (refine get_ii (by omega) ?_; conv => whnf)
    | (refine l3CutShape_call (by first | omega | assumption | (refine ⟨?_, ?_⟩ <;> first | assumption | omega) | (refine ⟨?_, ?_, ?_⟩ <;> first | assumption | omega)) ?_; conv => whnf)
    | (refine l2Without_calli (by omega) ?_; conv => whnf)
    | (refine l2BesideShape_call (by first | omega | assumption | (refine ⟨?_, ?_⟩ <;> first | assumption | omega) | (refine ⟨?_, ?_, ?_⟩ <;> first | assumption | omega)) ?_; conv => whnf)
    | (refine And.intro (pureL_ints _ _) ?_; conv => whnf)
    | (refine in_call ?_; conv => whnf)
    | (refine l1Count_call ?_; conv => whnf)
    | (refine sCountOf_call ?_; conv => whnf)
    | (refine l1Join_call (And.intro (by assumption) (by assumption)) ?_; conv => whnf)
    | (refine sTurnShape_call (by omega) ?_; conv => whnf)
    | refine aIf_eqf ?_
    | refine aIf_not ?_
    | (refine aIf_dec (fun _ => ?_) (fun _ => ?_) <;> conv => whnf))
  all_goals (first | (exfalso; omega) | skip)
  all_goals exact retLBM h1 h2 rfl rfl
set_option maxHeartbeats 8000000 in
theorem l3Shape_12 : Sound Try.prog 152 (l3P (fun op => op = 12)) := by
  refine sound_of Try.func152 rfl (enters_of Try.func152 (by kernel_rfl) (by kernel_rfl)) ?_
  rintro ⟨c, x, d, ss, e, ins⟩ hpre
  have hpre : (formP x ss.length ins.length ∧ allOk ss ∧ allOk ins ∧ x.l.length ≤ 1048576) ∧ (fun op : Int => op = 12) x.op := hpre
  obtain ⟨⟨⟨f1, f2, f3, f4, f5, f6, f7⟩, hss, hins, hxl⟩, hop⟩ := hpre
  have hop : (fun op : Int => op = 12) x.op := hop
  dsimp only at hop
  unfold lsP at f2
  have hmax : maxLen = 9223372036854775807 := rfl
  have t0 : Int.toNat 0 = 0 := rfl
  have t1 : Int.toNat 1 = 1 := rfl
  have t2 : Int.toNat 2 = 2 := rfl
  have hA : shapeOk (ss.getD x.a.toNat []) = true := hss x.a.toNat (by omega)
  have hA3 := ((shapeOk_iff _).1 hA).1
  have w1 : IntKind.i64.wrap (((ss.getD x.a.toNat []).length : Int) - 1) = (ss.getD x.a.toNat []).length - 1 := IntWalk.i64_in _ (by omega)
  have hB : shapeOk (ss.getD x.b.toNat []) = true := hss x.b.toNat (by omega)
  by_cases hi : (ss.getD x.a.toNat []).length = 2 ∧ (ss.getD x.b.toNat []).length = 2 ∧ (ss.getD x.a.toNat []).getD (Int.toNat 1) 0 = (ss.getD x.b.toNat []).getD (Int.toNat 0) 0
  · have hk : kOk x ss := .inr (.inr (.inr (.inr (.inr (.inr (.inr (.inr ⟨hop, hi⟩)))))))
    have h1 : spL x ss ins = [(ss.getD x.a.toNat []).getD (Int.toNat 0) 0, (ss.getD x.b.toNat []).getD (Int.toNat 1) 0] := by rw [spL_ok hk]; simp [kL, hop]
    have h2 : decide (kOk x ss) = true := decide_eq_true hk
    conv => whnf
    repeat' (first
      | (refine plan_in (id := 17) [0, 1, 3, 4, 6, 2, 5, 7, 8, 9, 10] (by kernel_rfl) (by kernel_rfl) ?_; conv => whnf)
      | (refine plan_in (id := 23) [0, 1, 2, 3, 4, 5, 6, 7, 8, 9, 10, 11, 12, 13, 14, 15, 16] (by kernel_rfl) (by kernel_rfl) ?_; conv => whnf)
      | (refine plan_in (id := 25) [0, 1, 2, 3, 4, 5, 6, 7, 8] (by kernel_rfl) (by kernel_rfl) ?_; conv => whnf)
      | (refine aIf_t ?_; conv => whnf)
      | (refine aIf_f ?_; conv => whnf)
      | (refine fun (_ : _ ≤ maxLen) => ?_; conv => whnf)
      | (refine get_nat (by omega) ?_; conv => whnf)
      | (refine get_int (by omega) ?_; conv => whnf)
      | (refine aGet_in rfl ?_; conv => whnf)
      | (refine And.intro (by omega) ?_; conv => whnf)
      | (refine And.intro rfl (And.intro (List.cons_ne_nil _ _) ?_); conv => whnf)
      | (refine callG_t ?_; conv => whnf)
      | (refine l2Nums_call (by omega) ?_; conv => whnf)
      | (refine append_same ?_; conv => whnf)
      | (refine get_ii_n (by omega) ?_; conv => whnf)
      | (refine get_ii (by omega) ?_; conv => whnf)
      | (refine l3CutShape_call (by first | omega | assumption | (refine ⟨?_, ?_⟩ <;> first | assumption | omega) | (refine ⟨?_, ?_, ?_⟩ <;> first | assumption | omega)) ?_; conv => whnf)
      | (refine l2Without_calli (by omega) ?_; conv => whnf)
      | (refine l2BesideShape_call (by first | omega | assumption | (refine ⟨?_, ?_⟩ <;> first | assumption | omega) | (refine ⟨?_, ?_, ?_⟩ <;> first | assumption | omega)) ?_; conv => whnf)
      | (refine in_call ?_; conv => whnf)
      | (refine l1Count_call ?_; conv => whnf)
      | (refine sCountOf_call ?_; conv => whnf)
      | (refine l1Join_call (And.intro (by assumption) (by assumption)) ?_; conv => whnf)
      | (refine sTurnShape_call (by omega) ?_; conv => whnf)
      | (refine And.intro (And.intro (by kernel_rfl) (And.intro rfl (Nat.le_of_ble_eq_true rfl))) ?_; conv => whnf)
      | refine aIf_eqf ?_
      | refine aIf_not ?_
      | (refine aIf_dec (fun _ => ?_) (fun _ => ?_) <;> conv => whnf))
    all_goals (first | (exfalso; omega) | skip)
    all_goals exact retLBM h1 h2 rfl rfl
  · have hk : ¬ kOk x ss := fun hk => by
      rcases hk with hk | hk | hk | hk | hk | hk | hk | hk | hk
      all_goals (first | omega | exact hi hk.2)
    have h1 : spL x ss ins = [] := by unfold spL; rw [if_pos ⟨.inr hop, hk⟩]
    have h2 : decide (kOk x ss) = false := decide_eq_false hk
    conv => whnf
    repeat' (first
      | (refine plan_in (id := 17) [0, 1, 3, 4, 6, 2, 5, 7, 8, 9, 10] (by kernel_rfl) (by kernel_rfl) ?_; conv => whnf)
      | (refine plan_in (id := 23) [0, 1, 2, 3, 4, 5, 6, 7, 8, 9, 10, 11, 12, 13, 14, 15, 16] (by kernel_rfl) (by kernel_rfl) ?_; conv => whnf)
      | (refine plan_in (id := 25) [0, 1, 2, 3, 4, 5, 6, 7, 8] (by kernel_rfl) (by kernel_rfl) ?_; conv => whnf)
      | (refine aIf_t ?_; conv => whnf)
      | (refine aIf_f ?_; conv => whnf)
      | (refine fun (_ : _ ≤ maxLen) => ?_; conv => whnf)
      | (refine get_nat (by omega) ?_; conv => whnf)
      | (refine get_int (by omega) ?_; conv => whnf)
      | (refine aGet_in rfl ?_; conv => whnf)
      | (refine And.intro (by omega) ?_; conv => whnf)
      | (refine And.intro rfl (And.intro (List.cons_ne_nil _ _) ?_); conv => whnf)
      | (refine callG_t ?_; conv => whnf)
      | (refine l2Nums_call (by omega) ?_; conv => whnf)
      | (refine append_same ?_; conv => whnf)
      | (refine get_ii_n (by omega) ?_; conv => whnf)
      | (refine get_ii (by omega) ?_; conv => whnf)
      | (refine l3CutShape_call (by first | omega | assumption | (refine ⟨?_, ?_⟩ <;> first | assumption | omega) | (refine ⟨?_, ?_, ?_⟩ <;> first | assumption | omega)) ?_; conv => whnf)
      | (refine l2Without_calli (by omega) ?_; conv => whnf)
      | (refine l2BesideShape_call (by first | omega | assumption | (refine ⟨?_, ?_⟩ <;> first | assumption | omega) | (refine ⟨?_, ?_, ?_⟩ <;> first | assumption | omega)) ?_; conv => whnf)
      | (refine in_call ?_; conv => whnf)
      | (refine l1Count_call ?_; conv => whnf)
      | (refine sCountOf_call ?_; conv => whnf)
      | (refine l1Join_call (And.intro (by assumption) (by assumption)) ?_; conv => whnf)
      | (refine sTurnShape_call (by omega) ?_; conv => whnf)
      | refine aIf_eqf ?_
      | refine aIf_not ?_
      | (refine aIf_dec (fun _ => ?_) (fun _ => ?_) <;> conv => whnf))
    all_goals (first | (exfalso; omega) | skip)
    all_goals exact retLBM h1 h2 rfl rfl
set_option maxHeartbeats 8000000 in
theorem l3Shape_2 : Sound Try.prog 152 (l3P (fun op => 2 ≤ op ∧ op ≤ 5)) := by
  refine sound_of Try.func152 rfl (enters_of Try.func152 (by kernel_rfl) (by kernel_rfl)) ?_
  rintro ⟨c, x, d, ss, e, ins⟩ hpre
  have hpre : (formP x ss.length ins.length ∧ allOk ss ∧ allOk ins ∧ x.l.length ≤ 1048576) ∧ (fun op : Int => 2 ≤ op ∧ op ≤ 5) x.op := hpre
  obtain ⟨⟨⟨f1, f2, f3, f4, f5, f6, f7⟩, hss, hins, hxl⟩, hop⟩ := hpre
  have hop : (fun op : Int => 2 ≤ op ∧ op ≤ 5) x.op := hop
  dsimp only at hop
  unfold lsP at f2
  have hmax : maxLen = 9223372036854775807 := rfl
  have t0 : Int.toNat 0 = 0 := rfl
  have t1 : Int.toNat 1 = 1 := rfl
  have t2 : Int.toNat 2 = 2 := rfl
  have hA : shapeOk (ss.getD x.a.toNat []) = true := hss x.a.toNat (by omega)
  have hA3 := ((shapeOk_iff _).1 hA).1
  have w1 : IntKind.i64.wrap (((ss.getD x.a.toNat []).length : Int) - 1) = (ss.getD x.a.toNat []).length - 1 := IntWalk.i64_in _ (by omega)
  have hB : shapeOk (ss.getD x.b.toNat []) = true := hss x.b.toNat (by omega)
  have hk : decide (kOk x ss) = jOk (ss.getD x.a.toNat []) (ss.getD x.b.toNat []) := Bool.eq_iff_iff.2 (by
    rw [decide_eq_true_iff]
    refine ⟨fun hk => ?_, fun hj => .inr (.inr (.inl ⟨hop.1, hop.2, hj⟩))⟩
    rcases hk with hk | hk | hk | hk | hk | hk | hk | hk | hk
    all_goals (first | omega | exact hk.2.2))
  have hL : spL x ss ins = jL (ss.getD x.a.toNat []) (ss.getD x.b.toNat []) := by
    unfold spL kL
    rw [if_neg (by omega), if_neg (by omega), if_neg (by omega), if_neg (by omega), if_neg (by omega), if_neg (by omega), if_neg (by omega), if_neg (by omega), if_neg (by omega), if_neg (by omega)]
  have h1 : spL x ss ins = jL (ss.getD x.a.toNat []) (ss.getD x.b.toNat []) := hL
  have h2 : decide (kOk x ss) = jOk (ss.getD x.a.toNat []) (ss.getD x.b.toNat []) := hk
  conv => whnf
  repeat' (first
    | (refine plan_in (id := 17) [0, 1, 3, 4, 6, 2, 5, 7, 8, 9, 10] (by kernel_rfl) (by kernel_rfl) ?_; conv => whnf)
    | (refine plan_in (id := 23) [0, 1, 2, 3, 4, 5, 6, 7, 8, 9, 10, 11, 12, 13, 14, 15, 16] (by kernel_rfl) (by kernel_rfl) ?_; conv => whnf)
    | (refine plan_in (id := 25) [0, 1, 2, 3, 4, 5, 6, 7, 8] (by kernel_rfl) (by kernel_rfl) ?_; conv => whnf)
    | (refine aIf_t ?_; conv => whnf)
    | (refine aIf_f ?_; conv => whnf)
    | (refine fun (_ : _ ≤ maxLen) => ?_; conv => whnf)
    | (refine get_nat (by omega) ?_; conv => whnf)
    | (refine aGet_in rfl ?_; conv => whnf)
    | (refine And.intro (by omega) ?_; conv => whnf)
    | (refine And.intro rfl (And.intro (List.cons_ne_nil _ _) ?_); conv => whnf)
    | (refine callG_t ?_; conv => whnf)
    | (refine l2Nums_call (by omega) ?_; conv => whnf)
    | (refine append_same ?_; conv => whnf)
    | (refine get_ii_n (by omega) ?_; conv => whnf)
    | (refine get_ii (by omega) ?_; conv => whnf)
    | (refine l3CutShape_call (by first | omega | assumption | (refine ⟨?_, ?_⟩ <;> first | assumption | omega) | (refine ⟨?_, ?_, ?_⟩ <;> first | assumption | omega)) ?_; conv => whnf)
    | (refine l2Without_calli (by omega) ?_; conv => whnf)
    | (refine l2BesideShape_call (by first | omega | assumption | (refine ⟨?_, ?_⟩ <;> first | assumption | omega) | (refine ⟨?_, ?_, ?_⟩ <;> first | assumption | omega)) ?_; conv => whnf)
    | (refine And.intro (pureL_ints _ _) ?_; conv => whnf)
    | (refine in_call ?_; conv => whnf)
    | (refine l1Count_call ?_; conv => whnf)
    | (refine sCountOf_call ?_; conv => whnf)
    | (refine l1Join_call (And.intro (by assumption) (by assumption)) ?_; conv => whnf)
    | (refine sTurnShape_call (by omega) ?_; conv => whnf)
    | refine aIf_eqf ?_
    | refine aIf_not ?_
    | (refine aIf_dec (fun _ => ?_) (fun _ => ?_) <;> conv => whnf))
  all_goals (first | (exfalso; omega) | skip)
  all_goals exact retLBM h1 h2 rfl rfl
end Go.Proofs.Ytjmdhfjemaoebaa

/- Chapter 3: the shape of a node: the model's, all kinds. -/
namespace Go.Proofs.Ytjmdhfjemaoebaa
set_option maxRecDepth 20000
open Go.RowKit Go.Am
theorem l3P_or {p q r : Int → Prop} (h : ∀ op, r op → p op ∨ q op) (hp : Sound Try.prog 152 (l3P p)) (hq : Sound Try.prog 152 (l3P q)) : Sound Try.prog 152 (l3P r) :=
  ⟨hp.1, fun x hx => by
    obtain ⟨c, n, d, ss, e, ins⟩ := x
    have hx : (formP n ss.length ins.length ∧ allOk ss ∧ allOk ins ∧ n.l.length ≤ 1048576) ∧ r n.op := hx
    rcases h _ hx.2 with h1 | h1
    · exact hp.2 (c, n, d, ss, e, ins) ⟨hx.1, h1⟩
    · exact hq.2 (c, n, d, ss, e, ins) ⟨hx.1, h1⟩⟩
theorem l3Shape_sound : Sound Try.prog 152 (l3P (fun op => 0 ≤ op ∧ op ≤ 12)) := by
  refine l3P_or (p := fun op => op ≤ 7 ∧ 6 ≤ op ∨ op ≤ 1 ∧ 0 ≤ op) (q := fun op => 2 ≤ op ∧ op ≤ 5 ∨ 8 ≤ op ∧ op ≤ 12) (fun op h => by omega) ?_ ?_
  · refine l3P_or (p := fun op => op = 0 ∨ op = 1) (q := fun op => op = 6 ∨ op = 7) (fun op h => by omega) (l3P_or (fun _ h => h) l3Shape_0 l3Shape_1) (l3P_or (fun _ h => h) l3Shape_6 l3Shape_7)
  · refine l3P_or (p := fun op => op = 8 ∨ op = 9 ∨ op = 10) (q := fun op => (2 ≤ op ∧ op ≤ 5) ∨ op = 11 ∨ op = 12) (fun op h => by omega) (l3P_or (fun _ h => h) l3Shape_8 (l3P_or (fun _ h => h) l3Shape_9 l3Shape_10)) (l3P_or (fun _ h => h) l3Shape_2 (l3P_or (fun _ h => h) l3Shape_11 l3Shape_12))
theorem l3Shape_call {c d e : Nat} {x : Nd} {ss ins : List (List Int)} {env : List AV} {rows : List Row} {ctr low : Nat} {k : AV → St → Prop} (hpre : formP x ss.length ins.length ∧ allOk ss ∧ allOk ins ∧ x.l.length ≤ 1048576)
    (h : k (.tup [.ref rows.length ctr 0 (spL x ss ins).length, .bool (decide (kOk x ss))]) ⟨env, rows ++ [⟨ctr, 3, 1, (spL x ss ins).map (.int .i64)⟩], ctr + 1, low⟩) :
    CallB Try.prog 152 ⟨env, rows, ctr, low⟩ [.agg [.int .i64 x.op, .int .i64 x.a, .int .i64 x.b, .sl c x.l.length (x.l.map (.int .i64))], .sl d ss.length (ss.map (slI d)), .sl e ins.length (ins.map (slI e))] k := callLB_in l3Shape_sound (c, x, d, ss, e, ins) ⟨hpre, hpre.1.1⟩ h
end Go.Proofs.Ytjmdhfjemaoebaa
