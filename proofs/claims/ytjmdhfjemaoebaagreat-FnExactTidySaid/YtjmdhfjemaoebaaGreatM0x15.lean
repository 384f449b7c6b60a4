import Derived.Test.YtjmdhfjemaoebaaGreatM0x14
import Derived.Test.YtjmdhfjemaoebaaGreatM0x12
namespace Go.Proofs.YtjmdhfjemaoebaaGreat
set_option maxRecDepth 20000
open Go.RowKit Go.Am
set_option linter.unusedSimpArgs false
attribute [local irreducible] aPlan aGet aIf aLoop aCall RetB NextB CallB CallG aCut aSet aAppend
def lsP (x : Nd) : Prop := ((x.op = 7 ∨ x.op = 11) → (x.l.length : Int) = 1) ∧ (x.op = 10 → (x.l.length : Int) = 3) ∧ (x.op ≠ 7 ∧ x.op ≠ 11 ∧ x.op ≠ 10 ∧ x.op ≠ 8 ∧ x.op ≠ 9 → (x.l.length : Int) = 0)
instance (x : Nd) : Decidable (lsP x) := by unfold lsP; infer_instance
def pcN (op : Int) : Int := if op = 0 ∨ op = 1 then 0 else if 6 ≤ op ∧ op ≤ 10 then 1 else 2
theorem pcN_0 {op : Int} (h : op = 0 ∨ op = 1) : pcN op = 0 := if_pos h
theorem pcN_1 {op : Int} (h : 6 ≤ op ∧ op ≤ 10) : pcN op = 1 := by unfold pcN; rw [if_neg (by omega), if_pos h]
theorem pcN_2 {op : Int} (h : ¬ (op = 0 ∨ op = 1)) (h' : ¬ (6 ≤ op ∧ op ≤ 10)) : pcN op = 2 := by unfold pcN; rw [if_neg h, if_neg h']
theorem pcN_cases (op : Int) : (pcN op = 0 ∧ (op = 0 ∨ op = 1)) ∨ (pcN op = 1 ∧ (6 ≤ op ∧ op ≤ 10)) ∨ (pcN op = 2 ∧ ¬ (op = 0 ∨ op = 1) ∧ ¬ (6 ≤ op ∧ op ≤ 10)) := by
  by_cases h : op = 0 ∨ op = 1
  · exact .inl ⟨pcN_0 h, h⟩
  · by_cases h' : 6 ≤ op ∧ op ≤ 10
    · exact .inr (.inl ⟨pcN_1 h', h'⟩)
    · exact .inr (.inr ⟨pcN_2 h h', h, h'⟩)
def formP (x : Nd) (k n : Int) : Prop := (0 ≤ x.op ∧ x.op ≤ 12) ∧ lsP x ∧ ((x.op ≤ 1 ∨ (6 ≤ x.op ∧ x.op ≤ 10)) → x.b = 0) ∧ (x.op = 0 → 0 ≤ x.a ∧ x.a < n) ∧ (x.op = 1 → -9 ≤ x.a ∧ x.a ≤ 9) ∧ (2 ≤ x.op → 0 ≤ x.a ∧ x.a < k) ∧ (((2 ≤ x.op ∧ x.op ≤ 5) ∨ 11 ≤ x.op) → 0 ≤ x.b ∧ x.b < k)
instance (x : Nd) (k n : Int) : Decidable (formP x k n) := by unfold formP; infer_instance
theorem listOk_sound : Sound Tryz.prog 189 (fnS (ι := Nat × Nd) (fun | (c, x) => [.agg [.int .i64 x.op, .int .i64 x.a, .int .i64 x.b, .sl c x.l.length (x.l.map (.int .i64))]]) (fun _ => True) (fun | (_, x) => .bool (decide (lsP x)))) := by
  refine sound_of Tryz.func189 rfl (enters_of Tryz.func189 (by kernel_rfl) (by kernel_rfl)) ?_
  rintro ⟨c, x⟩ -
  conv => whnf
  repeat' (first
    | ((first | refine fun (_ : _ ≤ maxLen) => ?_ | refine aGet_in rfl ?_ | refine And.intro rfl (And.intro (List.cons_ne_nil _ _) ?_) | refine append_same ?_); conv => whnf) | (refine aIf_dec (fun _ => ?_) (fun _ => ?_) <;> conv => whnf))
  all_goals refine retS rfl (congrArg AV.bool (Bool.eq_iff_iff.2 ?_))
  all_goals simp only [decide_eq_true_eq, beq_iff_eq, bne_iff_ne, ne_eq, true_iff, false_iff, Bool.false_eq_true]
  all_goals (try unfold lsP)
  all_goals (try unfold lsP)
  all_goals omega
theorem listOk_call {c : Nat} {x : Nd} {env : List AV} {rows : List Row} {ctr low : Nat} {k : AV → St → Prop} (hpre : True) (h : k (.bool (decide (lsP x))) ⟨env, rows, ctr + 1, low⟩) :
    CallB Tryz.prog 189 ⟨env, rows, ctr, low⟩ [.agg [.int .i64 x.op, .int .i64 x.a, .int .i64 x.b, .sl c x.l.length (x.l.map (.int .i64))]] k := callS_in listOk_sound (c, x) hpre rfl h
theorem partCount_sound : Sound Tryz.prog 131 (fnS (ι := Int) (fun op => [.int .i64 op]) (fun _ => True) (fun op => .int .i64 (pcN op))) := by
  refine sound_of Tryz.func131 rfl (enters_of Tryz.func131 (by kernel_rfl) (by kernel_rfl)) ?_
  intro (op : Int) _
  have h := pcN_cases op
  conv => whnf
  repeat' (first
    | (refine append_same ?_; conv => whnf) | (refine aIf_dec (fun _ => ?_) (fun _ => ?_) <;> conv => whnf))
  all_goals exact retS rfl (int_eq (by omega))
theorem partCount_call {op : Int} {env : List AV} {rows : List Row} {ctr low : Nat} {k : AV → St → Prop} (hpre : True) (h : k (.int .i64 (pcN op)) ⟨env, rows, ctr + 1, low⟩) :
    CallB Tryz.prog 131 ⟨env, rows, ctr, low⟩ [.int .i64 op] k := callS_in partCount_sound op hpre rfl h
theorem partsOf_sound : Sound Tryz.prog 116 (fnR (ι := Nat × Nd) 3 1 (fun | (c, x) => [.agg [.int .i64 x.op, .int .i64 x.a, .int .i64 x.b, .sl c x.l.length (x.l.map (.int .i64))]]) (fun _ => True) (fun | (_, x) => (pcN x.op).toNat) (fun | (_, x) => ([x.a, x.b] : List Int).map (.int .i64))) := by
  refine sound_of Tryz.func116 rfl (enters_of Tryz.func116 (by kernel_rfl) (by kernel_rfl)) ?_
  rintro ⟨c, x⟩ -
  have h := pcN_cases x.op
  conv => whnf
  repeat' (first
    | ((first | refine aGet_in rfl ?_ | refine And.intro (by omega) ?_ | refine And.intro rfl (And.intro (List.cons_ne_nil _ _) ?_) | refine callG_t ?_ | refine append_same ?_ | refine partCount_call trivial ?_ | refine And.intro (And.intro (by kernel_rfl) (And.intro rfl (Nat.le_of_ble_eq_true rfl))) ?_); conv => whnf))
  exact retR rfl rfl rfl rfl
theorem partsOf_call {c : Nat} {x : Nd} {env : List AV} {rows : List Row} {ctr low : Nat} {k : AV → St → Prop} (h : k (.ref rows.length ctr 0 (pcN x.op).toNat) ⟨env, rows ++ [⟨ctr, 3, 1, ([x.a, x.b] : List Int).map (.int .i64)⟩], ctr + 1, low⟩) :
    CallB Tryz.prog 116 ⟨env, rows, ctr, low⟩ [.agg [.int .i64 x.op, .int .i64 x.a, .int .i64 x.b, .sl c x.l.length (x.l.map (.int .i64))]] k := callR_in partsOf_sound (c, x) trivial (protL_ints _ _) h
set_option maxHeartbeats 4000000 in
theorem nodeOk_sound : Sound Tryz.prog 173 (fnS (ι := Nat × List (List Int) × List Nd × Nat) (fun | (c, xss, ns, k) => [.agg [.sl c xss.length (xss.map (slI c)), .sl c ns.length (ns.flatMap (ndC c))], .int .i64 k]) (fun | (_, _, ns, k) => k < ns.length) (fun | (_, xss, ns, k) => .bool (decide (formP (ns.getD k default) k xss.length)))) := by
  refine sound_of Tryz.func173 rfl (enters_of Tryz.func173 (by kernel_rfl) (by kernel_rfl)) ?_
  rintro ⟨c, xss, ns, k⟩ hpre
  have hk : k < ns.length := hpre
  have hmax : maxLen = 9223372036854775807 := rfl
  have hpc := pcN_cases (ns.getD k default).op
  clear hpre
  conv => whnf
  repeat' (first
    | ((first | refine aIf_t ?_ | refine aIf_f ?_ | refine fun (_ : _ ≤ maxLen) => ?_ | refine aGet_in rfl ?_ | refine And.intro (by omega) ?_ | refine load_same ?_ | refine And.intro rfl (And.intro (List.cons_ne_nil _ _) ?_) | refine And.intro (Nat.le_of_ble_eq_true rfl) ?_ | refine callG_t ?_ | refine indexOk_call trivial ?_ | refine append_same ?_ | refine part_nd_n (by omega) ?_ | refine listOk_call trivial ?_ | refine partCount_call trivial ?_ | refine partsOf_call ?_ | refine takeN_in ?_ | refine And.intro (pureL_ints _ _) ?_ | refine set_force ?_ | refine And.intro (by kernel_rfl) ?_); conv => whnf) | refine aIf_eqt ?_
    | refine aIf_eqf ?_ | refine aIf_not ?_
    | (refine aIf_dec (fun _ => ?_) (fun _ => ?_) <;> conv => whnf))
  all_goals (first | (refine retS rfl (congrArg AV.bool (Bool.eq_iff_iff.2 ?_)); simp only [decide_eq_true_eq, beq_iff_eq, bne_iff_ne, ne_eq, true_iff, false_iff, Bool.false_eq_true]; unfold formP; (try unfold lsP at *); omega) | skip)
  all_goals
    rename_i g0 g1
    refine loop_u (ι := Nat) [false, true, false, false, false, false, false, false, false, false, false, false, false, false, false, false, false, false, false, false, false, false, false, false, false, false, false, false, false, false, false, false, false, false, false, false, false, false, false, false, false, false, false, false, false, false, false, false, false, false, false, false, false, false, false, false, true, true, true, false, false, false, false, false, false, false, false] (fun j => [(58, .int .i64 j)]) (fun _ => []) (fun j => (j : Int) ≤ pcN (ns.getD k default).op ∧ ∀ i, i < j → 0 ≤ ([(ns.getD k default).a, (ns.getD k default).b] : List Int).getD i 0 ∧ ([(ns.getD k default).a, (ns.getD k default).b] : List Int).getD i 0 < k) (fun j => 2 - j) (0) ⟨by omega, fun j hj => absurd hj (Nat.not_lt_zero _)⟩ ?_ ?_
    · conv => whnf
      repeat' (first
        | exact trivial | exact rfl
        | exact pureL_ints _ _ | exact Or.inl (And.intro rfl rfl)
        | exact pureL_ii _ _ | exact pureL_nd _ _
        | refine Or.inr ?_ | refine And.intro ?_ ?_
        | exact Nat.le_of_ble_eq_true rfl)
    · rintro j ⟨hj, hall⟩
      have hj : (j : Int) ≤ pcN (ns.getD k default).op := hj
      have h0 : 0 < j → 0 ≤ (ns.getD k default).a ∧ (ns.getD k default).a < k := fun h => hall 0 h
      have h1 : 1 < j → 0 ≤ (ns.getD k default).b ∧ (ns.getD k default).b < k := fun h => hall 1 h
      have hlen : ([(ns.getD k default).a, (ns.getD k default).b] : List Int).length = 2 := rfl
      have e0 : j = 0 → ([(ns.getD k default).a, (ns.getD k default).b] : List Int).getD j 0 = (ns.getD k default).a := fun h => by rw [h]; rfl
      have e1 : j = 1 → ([(ns.getD k default).a, (ns.getD k default).b] : List Int).getD j 0 = (ns.getD k default).b := fun h => by rw [h]; rfl
      conv => whnf
      repeat' (first
        | ((first | refine get_nat0 (by omega) ?_ | refine And.intro (by omega) ?_ | refine callG_t ?_ | refine indexOk_call trivial ?_ | refine append_same ?_); conv => whnf) | refine aIf_not ?_
        | (refine aIf_dec (fun _ => ?_) (fun _ => ?_) <;> conv => whnf))
      all_goals (first | (refine retS rfl (congrArg AV.bool (Bool.eq_iff_iff.2 ?_)); simp only [decide_eq_true_eq, beq_iff_eq, bne_iff_ne, ne_eq, true_iff, false_iff, Bool.false_eq_true]; unfold formP; (try unfold lsP at *); omega) | skip)
      rename_i hlt hin
      refine next_u (j + 1) (show 2 - (j + 1) < 2 - j by omega) ⟨by omega, fun i hi => ?_⟩ ?_
      · rcases Nat.lt_succ_iff_lt_or_eq.1 hi with h | rfl
        · exact hall i h
        · exact hin
      · conv => whnf
        repeat' (first
          | exact trivial | exact rfl
          | exact pureL_ints _ _ | exact Or.inl (And.intro rfl rfl)
          | exact pureL_ii _ _ | exact pureL_nd _ _
          | refine Or.inr ?_ | refine And.intro ?_ ?_
          | exact Nat.le_of_ble_eq_true rfl | exact int_eq (by rw [IntWalk.i64_in _ (by omega)] <;> omega))
theorem nodeOk_call {c j : Nat} {xss : List (List Int)} {ns : List Nd} {env : List AV} {rows : List Row} {ctr low : Nat} {k : AV → St → Prop} (hpre : j < ns.length) (h : k (.bool (decide (formP (ns.getD j default) j xss.length))) ⟨env, rows, ctr + 1, low⟩) :
    CallB Tryz.prog 173 ⟨env, rows, ctr, low⟩ [.agg [.sl c xss.length (xss.map (slI c)), .sl c ns.length (ns.flatMap (ndC c))], .int .i64 j] k := callS_in nodeOk_sound (c, xss, ns, j) hpre rfl h
def insOk (xss : List (List Int)) : Prop := xss.length ≤ 3 ∧ ∀ j, j < xss.length → shapeOk (xss.getD j []) = true
instance (xss : List (List Int)) : Decidable (insOk xss) := by unfold insOk; infer_instance
theorem inputShapesOk_sound : Sound Tryz.prog 129 (fnS (ι := Nat × List (List Int)) (fun | (c, xss) => [.sl c xss.length (xss.map (slI c))]) (fun _ => True) (fun | (_, xss) => .bool (decide (insOk xss)))) := by
  refine sound_of Tryz.func129 rfl (enters_of Tryz.func129 (by kernel_rfl) (by kernel_rfl)) ?_
  rintro ⟨c, xss⟩ -
  have hmax : maxLen = 9223372036854775807 := rfl
  conv => whnf
  repeat' (first
    | ((first | refine fun (_ : _ ≤ maxLen) => ?_ | refine append_same ?_); conv => whnf) | (refine aIf_dec (fun _ => ?_) (fun _ => ?_) <;> conv => whnf))
  · exact retS rfl (congrArg AV.bool (decide_eq_false (fun h => by have := h.1; omega)).symm)
  · refine loop_u (ι := Nat) [false, false, false, false, false, false, false, false, true, true, true, false, false, false, false, false, false, false] (fun j => [(10, .int .i64 j)]) (fun _ => []) (fun j => j ≤ xss.length ∧ ∀ i, i < j → shapeOk (xss.getD i []) = true) (fun j => xss.length - j) (0) ⟨by omega, fun j hj => absurd hj (Nat.not_lt_zero _)⟩ ?_ ?_
    · conv => whnf
      repeat' (first
        | exact trivial | exact rfl
        | exact pureL_ii _ _ | refine And.intro ?_ ?_
        | exact Nat.le_of_ble_eq_true rfl)
    · rintro j ⟨hj, hall⟩
      have hj : j ≤ xss.length := hj
      conv => whnf
      repeat' (first
        | ((first | refine And.intro (by omega) ?_ | refine callG_t ?_ | refine append_same ?_ | refine get_ii_n (by omega) ?_ | refine And.intro (pureL_ints _ _) ?_ | refine iShapeOk_call ?_); conv => whnf) | refine aIf_not ?_
        | (refine aIf_dec (fun _ => ?_) (fun _ => ?_) <;> conv => whnf) | (refine aIf_in (fun _ => ?_) (fun _ => ?_) <;> conv => whnf))
      · rename_i hlt hs
        refine next_u (j + 1) (show xss.length - (j + 1) < xss.length - j by omega) ⟨by omega, fun i hi => ?_⟩ ?_
        · rcases Nat.lt_succ_iff_lt_or_eq.1 hi with h | rfl
          · exact hall i h
          · exact hs
        · conv => whnf
          repeat' (first
            | exact trivial | exact rfl
            | exact pureL_ii _ _ | refine And.intro ?_ ?_
            | exact Nat.le_of_ble_eq_true rfl | exact int_eq (by rw [IntWalk.i64_in _ (by omega)] <;> omega))
      · rename_i hlt hs
        exact retS rfl (congrArg AV.bool (decide_eq_false (fun h => by have := h.2 j (by omega); rw [this] at hs; cases hs)).symm)
      · exact retS rfl (congrArg AV.bool (decide_eq_true (⟨by omega, fun i hi => hall i (by omega)⟩ : insOk xss)).symm)
theorem inputShapesOk_call {c : Nat} {xss : List (List Int)} {env : List AV} {rows : List Row} {ctr low : Nat} {k : AV → St → Prop} (hpre : True) (h : k (.bool (decide (insOk xss))) ⟨env, rows, ctr + 1, low⟩) :
    CallB Tryz.prog 129 ⟨env, rows, ctr, low⟩ [.sl c xss.length (xss.map (slI c))] k := callS_in inputShapesOk_sound (c, xss) hpre rfl h
end Go.Proofs.YtjmdhfjemaoebaaGreat
namespace Go.Proofs.YtjmdhfjemaoebaaGreat
set_option maxRecDepth 20000
open Go.RowKit Go.Am
attribute [local irreducible] aPlan aGet aIf aLoop aCall RetB NextB CallB CallG aCut aSet
def cntTo (zs : List Int) : Nat → Int
  | 0 => 1
  | k + 1 => IntKind.i64.wrap (cntTo zs k * zs.getD k 0)
def countOf (zs : List Int) : Int := if shapeOk zs = true then cntTo zs zs.length else -1
set_option maxRecDepth 10000 in
theorem l1Count_sound : Sound Tryz.prog 99 (fnS (ι := Nat × List Int) (fun | (c, zs) => [.sl c zs.length (zs.map (.int .i64))]) (fun _ => True) (fun | (_, zs) => .int .i64 (cntTo zs zs.length))) := by
  refine sound_of Tryz.func99 rfl (enters_of Tryz.func99 (by kernel_rfl) (by kernel_rfl)) ?_
  rintro ⟨c, zs⟩ -
  conv => whnf
  repeat' (first
    | (refine append_same ?_; conv => whnf))
  refine loop_in (ι := Nat) (fun k => ⟨[.sl c zs.length (zs.map (.int .i64)), .un, .un, .int .i64 (cntTo zs k), .int .i64 k, .un, .un, .un, .un, .un, .un, .un, .un, .un, .un, .un, .un, .un], [], 1, 0⟩) (fun k => k ≤ zs.length) (fun k => zs.length - k) 0 (Nat.zero_le _) ?_ ?_
  · repeat' (first
      | exact trivial | exact rfl
      | exact pureL_ints _ _ | refine And.intro ?_ ?_
      | exact Nat.le_of_ble_eq_true rfl)
  · intro k hk
    have hk : k ≤ zs.length := hk
    conv => whnf
    repeat' (first
      | ((first | refine fun (_ : _ ≤ maxLen) => ?_ | refine get_nat (by omega) ?_ | refine And.intro (by omega) ?_ | refine append_same ?_); conv => whnf) | (refine aIf_dec (fun _ => ?_) (fun _ => ?_) <;> conv => whnf))
    · refine next_in (k + 1) (show zs.length - (k + 1) < zs.length - k by omega) (by omega) ?_
      have hmax : maxLen = 9223372036854775807 := rfl
      repeat' (first
        | exact trivial | exact rfl
        | exact pureL_ints _ _ | refine And.intro ?_ ?_
        | exact Nat.le_of_ble_eq_true rfl | exact int_eq (by rw [IntWalk.i64_in _ (by omega)] <;> omega))
    · have e : k = zs.length := by omega
      subst e
      exact retS rfl rfl
theorem l1Count_call {c : Nat} {zs : List Int} {env : List AV} {rows : List Row} {ctr low : Nat} {k : AV → St → Prop} (h : k (.int .i64 (cntTo zs zs.length)) ⟨env, rows, ctr + 1, low⟩) :
    CallB Tryz.prog 99 ⟨env, rows, ctr, low⟩ [.sl c zs.length (zs.map (.int .i64))] k := callS_in l1Count_sound (c, zs) trivial rfl h
set_option maxRecDepth 10000 in
theorem sCountOf_sound : Sound Tryz.prog 145 (fnS (ι := Nat × List Int) (fun | (c, zs) => [.sl c zs.length (zs.map (.int .i64))]) (fun _ => True) (fun | (_, zs) => .int .i64 (countOf zs))) := by
  refine sound_of Tryz.func145 rfl (enters_of Tryz.func145 (by kernel_rfl) (by kernel_rfl)) ?_
  rintro ⟨c, zs⟩ -
  conv => whnf
  repeat' (first
    | ((first | refine callG_t ?_ | refine append_same ?_ | refine And.intro (pureL_ints _ _) ?_ | refine sShapeOk_call ?_ | refine l1Count_call ?_); conv => whnf) | refine aIf_not ?_
    | (refine aIf_in (fun _ => ?_) (fun _ => ?_) <;> conv => whnf))
  · rename_i h
    exact retS rfl (int_eq (by rw [countOf, if_pos h]))
  · rename_i h
    exact retS rfl (int_eq (by rw [countOf, if_neg (by rw [h]; decide)]))
theorem sCountOf_call {c : Nat} {zs : List Int} {env : List AV} {rows : List Row} {ctr low : Nat} {k : AV → St → Prop} (h : k (.int .i64 (countOf zs)) ⟨env, rows, ctr + 1, low⟩) :
    CallB Tryz.prog 145 ⟨env, rows, ctr, low⟩ [.sl c zs.length (zs.map (.int .i64))] k := callS_in sCountOf_sound (c, zs) trivial rfl h
set_option maxRecDepth 10000 in
theorem iCountOf_sound : Sound Tryz.prog 113 (fnS (ι := Nat × List Int) (fun | (c, zs) => [.sl c zs.length (zs.map (.int .i64))]) (fun _ => True) (fun | (_, zs) => .int .i64 (countOf zs))) := by
  refine sound_of Tryz.func113 rfl (enters_of Tryz.func113 (by kernel_rfl) (by kernel_rfl)) ?_
  rintro ⟨c, zs⟩ -
  conv => whnf
  repeat' (first
    | ((first | refine fun (_ : _ ≤ maxLen) => ?_ | refine callG_t ?_ | refine append_same ?_ | refine And.intro (pureL_ints _ _) ?_ | refine iShapeOk_call ?_); conv => whnf) | refine aIf_not ?_
    | (refine aIf_in (fun _ => ?_) (fun _ => ?_) <;> conv => whnf))
  · rename_i h _
    refine loop_in (ι := Nat) (fun k => ⟨[.sl c zs.length (zs.map (.int .i64)), .un, .int .i64 0, .int .i64 (cntTo zs k), .un, .un, .un, .un, .un, .sl c zs.length (zs.map (.int .i64)), .int .i64 zs.length, .int .i64 k, .un, .un, .un, .un, .un, .un, .un, .un], [], 2, 0⟩) (fun k => k ≤ zs.length) (fun k => zs.length - k) 0 (Nat.zero_le _) ?_ ?_
    · repeat' (first
        | exact trivial | exact rfl
        | exact pureL_ints _ _ | refine And.intro ?_ ?_
        | exact Nat.le_of_ble_eq_true rfl)
    · intro k hk
      have hk : k ≤ zs.length := hk
      conv => whnf
      repeat' (first
        | ((first | refine get_nat (by omega) ?_ | refine And.intro (by omega) ?_ | refine append_same ?_); conv => whnf) | (refine aIf_dec (fun _ => ?_) (fun _ => ?_) <;> conv => whnf))
      · refine next_in (k + 1) (show zs.length - (k + 1) < zs.length - k by omega) (by omega) ?_
        have hmax : maxLen = 9223372036854775807 := rfl
        repeat' (first
          | exact trivial | exact rfl
          | exact pureL_ints _ _ | refine And.intro ?_ ?_
          | exact Nat.le_of_ble_eq_true rfl | exact int_eq (by rw [IntWalk.i64_in _ (by omega)] <;> omega))
      · have e : k = zs.length := by omega
        subst e
        exact retS rfl (int_eq (by rw [countOf, if_pos h]))
  · rename_i h
    exact retS rfl (int_eq (by rw [countOf, if_neg (by rw [h]; decide)]))
theorem iCountOf_call {c : Nat} {zs : List Int} {env : List AV} {rows : List Row} {ctr low : Nat} {k : AV → St → Prop} (h : k (.int .i64 (countOf zs)) ⟨env, rows, ctr + 1, low⟩) :
    CallB Tryz.prog 113 ⟨env, rows, ctr, low⟩ [.sl c zs.length (zs.map (.int .i64))] k := callS_in iCountOf_sound (c, zs) trivial rfl h
def strT (zs : List Int) : Nat → Int
  | 0 => 1
  | m + 1 => IntKind.i64.wrap (strT zs m * zs.getD (zs.length - 1 - m) 0)
def strides (zs : List Int) : List Int := (List.range zs.length).map fun i => strT zs (zs.length - 1 - i)
theorem strides_length (zs : List Int) : (strides zs).length = zs.length := by simp [strides]
theorem strides_getD {zs : List Int} {j : Nat} (h : j < zs.length) : (strides zs).getD j 0 = strT zs (zs.length - 1 - j) := by
  simp [strides, List.getD, List.getElem?_map, List.getElem?_range h]
def strInv (zs : List Int) (x : Nat × List Int) : Prop := x.1 ≤ zs.length ∧ x.2.length = zs.length ∧ ∀ j, x.1 ≤ j → j < zs.length → x.2.getD j 0 = strT zs (zs.length - 1 - j)
theorem strInv_0 (zs : List Int) : strInv zs (zs.length, List.replicate zs.length 0) := ⟨Nat.le_refl _, by simp, fun j h1 h2 => by omega⟩
theorem strInv_next {zs : List Int} {q : Nat} {ws : List Int} (h : strInv zs (q + 1, ws)) : strInv zs (q, ws.set q (strT zs (zs.length - (q + 1)))) := by
  obtain ⟨h1, h2, h3⟩ := h
  have h1 : q + 1 ≤ zs.length := h1
  have h2 : ws.length = zs.length := h2
  have h3 : ∀ j, q + 1 ≤ j → j < zs.length → ws.getD j 0 = strT zs (zs.length - 1 - j) := h3
  refine ⟨(show q ≤ zs.length by omega), by simpa using h2, fun j hj hl => ?_⟩
  show (ws.set q (strT zs (zs.length - (q + 1)))).getD j 0 = _
  rw [getD_set (by omega)]
  split
  · rename_i e; subst e
    congr 1; omega
  · have hj : q ≤ j := hj
    exact h3 j (by omega) hl
theorem strInv_end {zs ws : List Int} (h : strInv zs (0, ws)) : ws = strides zs := getD_ext (by rw [strides_length]; exact h.2.1) fun j hj => by
  rw [strides_length] at hj
  rw [strides_getD hj]; exact h.2.2 j (Nat.zero_le _) hj
theorem strT_next {zs : List Int} {q : Nat} (h : q + 1 ≤ zs.length) : strT zs (zs.length - q) = IntKind.i64.wrap (strT zs (zs.length - (q + 1)) * zs.getD q 0) := by
  have e : zs.length - q = (zs.length - (q + 1)) + 1 := by omega
  rw [e, strT]
  congr 3; omega
def stridesOf (zs : List Int) : List Int := if shapeOk zs = true then strides zs else []
set_option maxRecDepth 10000 in
theorem iStridesOf_sound : Sound Tryz.prog 185 (fnL (ι := Nat × List Int) 3 (fun | (c, zs) => [.sl c zs.length (zs.map (.int .i64))]) (fun | (_, zs) => zs.length ≤ 1048576) (fun | (_, zs) => stridesOf zs)) := by
  refine sound_of Tryz.func185 rfl (enters_of Tryz.func185 (by kernel_rfl) (by kernel_rfl)) ?_
  rintro ⟨c, zs⟩ hpre
  have hpre : zs.length ≤ 1048576 := hpre
  conv => whnf
  repeat' (first
    | ((first | refine fun (_ : _ ≤ maxLen) => ?_ | refine And.intro (And.intro (Int.le_refl _) (And.intro (by kernel_rfl) (And.intro rfl (by kernel_rfl)))) (And.intro (And.intro (by omega) (And.intro (bytes_le (b := 8) rfl (by omega)) (by omega))) ?_) | refine callG_t ?_ | refine append_same ?_ | refine And.intro (pureL_ints _ _) ?_ | refine iShapeOk_call ?_); conv => whnf) | refine aIf_not ?_
    | (refine aIf_in (fun _ => ?_) (fun _ => ?_) <;> conv => whnf))
  · rename_i h _ _
    have e0 : stridesOf zs = strides zs := by rw [stridesOf, if_pos h]
    refine loop_in (ι := Nat × List Int) (fun | (q, ws) => ⟨[.sl c zs.length (zs.map (.int .i64)), .un, .un, .ref 1 3 0 zs.length, .int .i64 (strT zs (zs.length - q)), .int .i64 (q - 1), .un, .un, .un, .un, .un, .un, .un, .un, .un, .un, .un, .un, .un, .un, .un, .un, .un, .un, .un, .un, .un, .un, .un, .un], [⟨1, 3, 1, []⟩, ⟨3, 3, 1, ws.map (.int .i64)⟩], 4, 0⟩)
      (strInv zs) (fun x => x.1) (zs.length, List.replicate zs.length 0) (strInv_0 zs) ?_ ?_
    · have e0 : (1 : Int) = strT zs (zs.length - zs.length) := by rw [Nat.sub_self]; rfl
      repeat' (first
        | exact trivial | exact rfl
        | exact pureL_ints _ _ | exact Or.inl (And.intro rfl rfl)
        | exact le_ints (rep_ints _ _) | refine And.intro ?_ ?_
        | exact Nat.le_of_ble_eq_true rfl | exact int_eq (by assumption)
        | exact int_eq (by rw [IntWalk.i64_in _ (by omega)] <;> omega))
    · rintro ⟨q, ws⟩ hi
      have hq : q ≤ zs.length := hi.1
      have hl : ws.length = zs.length := hi.2.1
      conv => whnf
      repeat' (first
        | ((first | refine get_int (by omega) ?_ | refine And.intro (by omega) ?_ | refine append_same ?_ | refine And.intro rfl (And.intro rfl (And.intro (by first | omega | (rw [List.length_map]; omega)) ?_)) | refine set_int ?_ (by omega)); conv => whnf) | (refine aIf_dec (fun _ => ?_) (fun _ => ?_) <;> conv => whnf))
      · obtain ⟨q, rfl⟩ : ∃ q', q = q' + 1 := ⟨q - 1, by omega⟩
        have e1 : (((q + 1 : Nat) : Int) - 1).toNat = q := by omega
        have e2 := strT_next (zs := zs) hq
        rw [e1]
        refine next_in (q, ws.set q (strT zs (zs.length - (q + 1)))) (Nat.lt_succ_self _) (strInv_next hi) ?_
        rw [← e2]
        repeat' (first
          | exact trivial | exact rfl
          | exact pureL_ints _ _ | exact Or.inl (And.intro rfl rfl)
          | exact le_ints rfl | refine And.intro ?_ ?_
          | exact Nat.le_of_ble_eq_true rfl | exact int_eq (by rw [IntWalk.i64_in _ (by omega)] <;> omega))
      · have e : q = 0 := by omega
        subst e
        have e := strInv_end hi
        subst e
        show RetB _ _ (fun r ic news => r = .ref 0 0 0 (stridesOf zs).length ∧ ic = [] ∧ news = [⟨0, 3, 1, (stridesOf zs).map (.int .i64)⟩]) _
        rw [e0]
        exact retL rfl rfl rfl (strides_length zs).symm
  · rename_i h
    have e : stridesOf zs = [] := by rw [stridesOf, if_neg (by rw [h]; decide)]
    show RetB _ _ (fun r ic news => r = .ref 0 0 0 (stridesOf zs).length ∧ ic = [] ∧ news = [⟨0, 3, 1, (stridesOf zs).map (.int .i64)⟩]) _
    rw [e]
    exact retL rfl rfl rfl rfl
theorem iStridesOf_call {c : Nat} {zs : List Int} {env : List AV} {rows : List Row} {ctr low : Nat} {k : AV → St → Prop} (hpre : zs.length ≤ 1048576) (h : k (.ref rows.length ctr 0 (stridesOf zs).length) ⟨env, rows ++ [⟨ctr, 3, 1, (stridesOf zs).map (.int .i64)⟩], ctr + 1, low⟩) :
    CallB Tryz.prog 185 ⟨env, rows, ctr, low⟩ [.sl c zs.length (zs.map (.int .i64))] k := callL_in iStridesOf_sound (c, zs) hpre h
end Go.Proofs.YtjmdhfjemaoebaaGreat
namespace Go.Proofs.YtjmdhfjemaoebaaGreat
set_option maxRecDepth 20000
open Go.RowKit Go.Am
attribute [local irreducible] aPlan aGet aIf aLoop aCall RetB NextB CallB CallG aCut aSet
def marks (m : Int) (n : Nat) : List Int := (List.range n).map fun (j : Nat) => m + (j : Int)
theorem marks_length (m : Int) (n : Nat) : (marks m n).length = n := by simp [marks]
theorem marks_getD {m : Int} {n j : Nat} (h : j < n) : (marks m n).getD j 0 = m + j := by
  simp [marks, List.getD, List.getElem?_map, List.getElem?_range h]
def sMark : CSpec := fnM (ι := List Int × Int) 3 (fun x => x.1) (fun x => x.2) (fun x => x.1.length ≤ 1048576 ∧ 0 ≤ x.2 ∧ x.2 ≤ 1000000000000) (fun x => x.2 + x.1.length) (fun x => marks x.2 x.1.length)
set_option maxRecDepth 10000 in
theorem mark_sound : Sound Tryz.prog 61 sMark := by
  refine sound_of Tryz.func61 rfl (enters_of Tryz.func61 (by kernel_rfl) (by kernel_rfl)) ?_
  rintro ⟨zs, m⟩ hpre
  have hpre : zs.length ≤ 1048576 ∧ 0 ≤ m ∧ m ≤ 1000000000000 := hpre
  conv => whnf
  repeat' (first
    | (refine append_same ?_; conv => whnf))
  refine loop_in (ι := Nat × List Int) (fun | (k, ws) => ⟨[.ref 0 0 0 zs.length, .int .i64 (m + k), .un, .un, .int .i64 0, .int .i64 k, .un, .un, .un, .un, .un, .un, .un, .un, .un, .un, .un, .un, .un], [⟨0, 3, 1, ws.map (.int .i64)⟩], 1, 1⟩)
    (fun x => x.1 ≤ zs.length ∧ x.2.length = zs.length ∧ ∀ j, j < x.1 → x.2.getD j 0 = m + j) (fun x => zs.length - x.1) (0, zs) ⟨Nat.zero_le _, rfl, fun j hj => absurd hj (Nat.not_lt_zero _)⟩ ?_ ?_
  · repeat' (first
      | exact trivial | exact rfl
      | exact le_ints rfl | refine And.intro ?_ ?_
      | exact Nat.le_of_ble_eq_true rfl | exact int_eq (Int.add_zero _).symm)
  · rintro ⟨k, ws⟩ ⟨hk, hl, hall⟩
    have hk : k ≤ zs.length := hk
    have hl : ws.length = zs.length := hl
    have hall : ∀ j, j < k → ws.getD j 0 = m + j := hall
    conv => whnf
    repeat' (first
      | ((first | refine fun (_ : _ ≤ maxLen) => ?_ | refine And.intro (by omega) ?_ | refine append_same ?_ | refine And.intro rfl (And.intro rfl (And.intro (by first | omega | (rw [List.length_map]; omega)) ?_)) | refine set_nat ?_ (by omega)); conv => whnf) | (refine aIf_dec (fun _ => ?_) (fun _ => ?_) <;> conv => whnf))
    · refine next_in (k + 1, ws.set k (m + k)) (show zs.length - (k + 1) < zs.length - k by omega) ⟨(show k + 1 ≤ zs.length by omega), by simpa using hl, fun j hj => ?_⟩ ?_
      · have hj : j < k + 1 := hj
        show (ws.set k (m + k)).getD j 0 = _
        rw [getD_set (by omega)]
        split
        · rename_i e; rw [e]
        · exact hall j (by omega)
      · repeat' (first
          | exact trivial | exact rfl
          | exact le_ints rfl | refine And.intro ?_ ?_
          | exact Nat.le_of_ble_eq_true rfl | exact int_eq (by rw [IntWalk.i64_in _ (by omega)] <;> omega))
    · have e : k = zs.length := by omega
      subst e
      have e : ws = marks m zs.length := getD_ext (by rw [marks_length, hl]) fun j hj => by
        rw [marks_length] at hj
        rw [hall j hj, marks_getD hj]
      subst e
      exact retM (zs := zs) rfl
theorem mark_call {zs : List Int} {m : Int} {env : List AV} {rows : List Row} {ctr low τ ver n : Nat} {k : AV → St → Prop} (hr : rows[τ]? = some ⟨ver, 3, 1, zs.map (.int .i64)⟩) (hn : n = zs.length) (hpre : zs.length ≤ 1048576 ∧ 0 ≤ m ∧ m ≤ 1000000000000)
    (hk : k (.int .i64 (m + zs.length)) ⟨env, setRows rows [τ] [(marks m zs.length).map (.int .i64)], ctr + 1, low⟩) : CallG Tryz.prog 61 ⟨env, rows, ctr, low⟩ [.ref τ ver 0 n, .int .i64 m] k :=
  callM_in mark_sound (zs, m) hpre hr hn rfl hk
def sHeld : CSpec := fnS (ι := Nat × List Int × Int) (fun | (c, zs, m) => [.sl c zs.length (zs.map (.int .i64)), .int .i64 m]) (fun | (_, zs, m) => zs.length ≤ 1048576 ∧ 0 ≤ m ∧ m ≤ 1000000000000) (fun | (_, zs, m) => .int .i64 (if zs = marks m zs.length then m + zs.length else -1))
set_option maxRecDepth 10000 in
theorem held_sound : Sound Tryz.prog 62 sHeld := by
  refine sound_of Tryz.func62 rfl (enters_of Tryz.func62 (by kernel_rfl) (by kernel_rfl)) ?_
  rintro ⟨c, zs, m⟩ hpre
  have hpre : zs.length ≤ 1048576 ∧ 0 ≤ m ∧ m ≤ 1000000000000 := hpre
  conv => whnf
  repeat' (first
    | (refine append_same ?_; conv => whnf))
  refine loop_in (ι := Nat) (fun k => ⟨[.sl c zs.length (zs.map (.int .i64)), .int .i64 (m + k), .un, .un, .int .i64 0, .int .i64 k, .un, .un, .un, .un, .un, .un, .un, .un, .un, .un, .un, .un, .un, .un, .un], [], 1, 0⟩)
    (fun k => k ≤ zs.length ∧ ∀ j, j < k → zs.getD j 0 = m + j) (fun k => zs.length - k) 0 ⟨Nat.zero_le _, fun j hj => absurd hj (Nat.not_lt_zero _)⟩ ?_ ?_
  · repeat' (first
      | exact trivial | exact rfl
      | exact pureL_ints _ _ | refine And.intro ?_ ?_
      | exact Nat.le_of_ble_eq_true rfl | exact int_eq (by omega))
  · rintro k ⟨hk, hall⟩
    conv => whnf
    repeat' (first
      | ((first | refine fun (_ : _ ≤ maxLen) => ?_ | refine get_nat (by omega) ?_ | refine And.intro (by omega) ?_ | refine append_same ?_); conv => whnf) | refine aIf_not ?_
      | (refine aIf_dec (fun _ => ?_) (fun _ => ?_) <;> conv => whnf))
    · refine next_in (k + 1) (show zs.length - (k + 1) < zs.length - k by omega) ⟨by omega, fun j hj => ?_⟩ ?_
      · rcases Nat.lt_succ_iff_lt_or_eq.1 hj with h1 | rfl
        · exact hall j h1
        · assumption
      · repeat' (first
          | exact trivial | exact rfl
          | exact pureL_ints _ _ | refine And.intro ?_ ?_
          | exact Nat.le_of_ble_eq_true rfl | exact int_eq (by rw [IntWalk.i64_in _ (by omega)] <;> omega))
    · rename_i hne
      refine retS rfl (int_eq ?_)
      rw [if_neg]
      intro e
      apply hne
      have : zs.getD k 0 = (marks m zs.length).getD k 0 := congrArg (fun l => l.getD k 0) e
      rw [this, marks_getD (by omega)]
    · have e : k = zs.length := by omega
      subst e
      refine retS rfl (int_eq ?_)
      rw [if_pos]
      exact getD_ext (by rw [marks_length]) fun j hj => by
        rw [marks_length] at hj
        rw [hall j hj, marks_getD hj]
theorem held_call {c : Nat} {zs : List Int} {m : Int} {env : List AV} {rows : List Row} {ctr low : Nat} {k : AV → St → Prop} (hpre : zs.length ≤ 1048576 ∧ 0 ≤ m ∧ m ≤ 1000000000000) (h : k (.int .i64 (if zs = marks m zs.length then m + zs.length else -1)) ⟨env, rows, ctr + 1, low⟩) :
    CallB Tryz.prog 62 ⟨env, rows, ctr, low⟩ [.sl c zs.length (zs.map (.int .i64)), .int .i64 m] k := callS_in held_sound (c, zs, m) hpre rfl h
end Go.Proofs.YtjmdhfjemaoebaaGreat
namespace Go.Proofs.YtjmdhfjemaoebaaGreat
set_option maxRecDepth 20000
open Go.RowKit Go.Am
attribute [local irreducible] aPlan aGet aIf aLoop aCall RetB NextB CallB CallG aCut aSet aAppend
def numOk (z : Int) : Bool := decide (-1000000000 ≤ z ∧ z ≤ 1000000000)
def tensorOk (xs zs : List Int) : Bool := shapeOk xs && (decide ((zs.length : Int) = cntTo xs xs.length) && zs.all numOk)
theorem tensorOk_iff (xs zs : List Int) : tensorOk xs zs = true ↔ shapeOk xs = true ∧ (zs.length : Int) = cntTo xs xs.length ∧ ∀ j, j < zs.length → -1000000000 ≤ zs.getD j 0 ∧ zs.getD j 0 ≤ 1000000000 := by
  unfold tensorOk
  rw [Bool.and_eq_true, Bool.and_eq_true, all_iff, decide_eq_true_iff]
  simp only [numOk, decide_eq_true_iff]
def sTensorOk : CSpec := fnS (ι := Nat × List Int × Nat × List Int) (fun | (c, xs, d, zs) => [.agg [.sl c xs.length (xs.map (.int .i64)), .sl d zs.length (zs.map (.int .i64))]]) (fun _ => True) (fun | (_, xs, _, zs) => .bool (tensorOk xs zs))
theorem tensorOk_t {xs zs : List Int} (h1 : shapeOk xs = true) (h2 : (zs.length : Int) = cntTo xs xs.length) (h3 : ∀ j, j < zs.length → -1000000000 ≤ zs.getD j 0 ∧ zs.getD j 0 ≤ 1000000000) : tensorOk xs zs = true := (tensorOk_iff _ _).2 ⟨h1, h2, h3⟩
theorem cnt_count {xs : List Int} (h : shapeOk xs = true) : countOf xs = cntTo xs xs.length := if_pos h
theorem btw_num (zs : List Int) : btw zs (-1000000000) 1000000000 = zs.all numOk := rfl
set_option maxRecDepth 10000 in
theorem iTensorOk_sound : Sound Tryz.prog 71 sTensorOk := by
  refine sound_of Tryz.func71 rfl (enters_of Tryz.func71 (by kernel_rfl) (by kernel_rfl)) ?_
  rintro ⟨c, xs, d, zs⟩ -
  by_cases h : shapeOk xs = true ∧ (zs.length : Int) = cntTo xs xs.length
  · obtain ⟨h1, h2⟩ := h
    have hc := cnt_count h1
    have e : tensorOk xs zs = btw zs (-1000000000) 1000000000 := by unfold tensorOk; rw [h1, decide_eq_true h2, Bool.true_and, Bool.true_and, btw_num]
    conv => whnf
    repeat' (first
      | ((first | refine plan_in (id := 1) [0, 1, 2, 3, 4, 5, 6, 7, 8, 9, 10, 11, 12] (by kernel_rfl) (by kernel_rfl) ?_ | refine aIf_t ?_ | refine aIf_f ?_ | refine fun (_ : _ ≤ maxLen) => ?_ | refine aGet_in rfl ?_ | refine And.intro rfl (And.intro (List.cons_ne_nil _ _) ?_) | refine allBetween_call trivial ?_ | refine append_same ?_ | refine And.intro (pureL_ints _ _) ?_ | refine iCountOf_call ?_); conv => whnf) | refine aIf_eqt ?_
      | (refine aIf_dec (fun _ => ?_) (fun _ => ?_) <;> conv => whnf))
    all_goals (first | (exfalso; omega) | exact retS rfl (congrArg AV.bool e.symm))
  · have e : tensorOk xs zs = false := by
      rw [← Bool.not_eq_true, tensorOk_iff]; exact fun h' => h ⟨h'.1, h'.2.1⟩
    have hn : (zs.length : Int) ≠ countOf xs := by
      by_cases h1 : shapeOk xs = true
      · rw [cnt_count h1]; exact fun h' => h ⟨h1, h'⟩
      · have : countOf xs = -1 := if_neg h1
        rw [this]; omega
    conv => whnf
    repeat' (first
      | ((first | refine plan_in (id := 1) [0, 1, 2, 3, 4, 5, 6, 7, 8, 9, 10, 11, 12] (by kernel_rfl) (by kernel_rfl) ?_ | refine aIf_t ?_ | refine aIf_f ?_ | refine fun (_ : _ ≤ maxLen) => ?_ | refine aGet_in rfl ?_ | refine And.intro (by omega) ?_ | refine And.intro rfl (And.intro (List.cons_ne_nil _ _) ?_) | refine allBetween_call trivial ?_ | refine append_same ?_ | refine And.intro (pureL_ints _ _) ?_ | refine iCountOf_call ?_); conv => whnf) | refine aIf_eqt ?_
      | (refine aIf_dec (fun _ => ?_) (fun _ => ?_) <;> conv => whnf))
    all_goals (first | (exfalso; omega) | exact retS rfl (congrArg AV.bool e.symm))
theorem iTensorOk_call {c d : Nat} {xs zs : List Int} {env : List AV} {rows : List Row} {ctr low : Nat} {k : AV → St → Prop} (h : k (.bool (tensorOk xs zs)) ⟨env, rows, ctr + 1, low⟩) :
    CallB Tryz.prog 71 ⟨env, rows, ctr, low⟩ [.agg [.sl c xs.length (xs.map (.int .i64)), .sl d zs.length (zs.map (.int .i64))]] k := callS_in iTensorOk_sound (c, xs, d, zs) trivial rfl h
end Go.Proofs.YtjmdhfjemaoebaaGreat
